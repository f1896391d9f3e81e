/-
  Plain mathematics of the parts of a message: turned round they join to it; without one of them this one is missing.
  SplitMessage, both, and what the parts are when there are any; appends of parts.
  Condition: as each statement says.
-/
import Derived.Test.YthbmfaogjaahoaaTB
import Derived.Test.YthbmfaogjaahoaaRM
namespace Go.Proofs.Ythbmfaogjaahoaa
open Go Go.RowKit
set_option linter.unusedSimpArgs false
set_option linter.unusedVariables false

theorem xpG_end {s : ByteArray} {r : Int} : ∀ d k n, xpG s r d k = some n → (xpR s r n).size = 0 := by
  intro d
  induction d with
  | zero => intro k n h; cases h
  | succ d ih =>
    intro k n h
    rw [xpG] at h
    split at h
    · rename_i h1
      injection h with h
      rw [← h]; exact h1.2
    · split at h
      · cases h
      · exact ih _ _ h
theorem xp_join (s : ByteArray) (r : Int) : ∀ k, jn (xpT s r) k = s.extract 0 (xpP s r k) := by
  intro k
  induction k with
  | zero => rw [jn, xpP]; simp; rfl
  | succ k ih =>
    have h := xpP_succ s r k
    rw [jn, ih, xpT, ByteArray.extract_append_extract, Nat.min_eq_left (Nat.zero_le _), Nat.max_eq_right (by omega)]
theorem xp_all {s : ByteArray} {r : Int} {n : Nat} (h : xpN s r = some n) : jn (xpT s r) n = s := by
  have h1 := xpG_end 9 0 n h
  rw [xpR_size] at h1
  have h2 := xpP_le s r n
  rw [xp_join, show xpP s r n = s.size by omega]; simp
theorem jn_congr {T T' : Nat → ByteArray} : ∀ n, (∀ k, k < n → T k = T' k) → jn T n = jn T' n := by
  intro n
  induction n with
  | zero => intro _; rfl
  | succ n ih => intro h; rw [jn, jn, ih (fun k hk => h k (by omega)), h n (by omega)]
theorem xpT_le (s : ByteArray) (r : Int) (j : Nat) : (xpT s r j).size ≤ s.size := by
  have := xpP_le s r (j + 1)
  unfold xpT; simp; omega
theorem smY_ok {s : ByteArray} {r : Int} {n j : Nat} (hs : s.size ≤ 400) (h8 : n ≤ 8) (hj : j < n) : isPt (smY s r n j) = true := by
  have h1 := par_bd (bytesI s)
  have h2 := xpT_le s r j
  unfold isPt smY inR
  simp only [Bool.and_eq_true, decide_eq_true_eq]
  omega

/-- The parts turned round. -/
def rvY (s : ByteArray) (r : Int) (n : Nat) (j : Nat) : PtV := smY s r n (n - 1 - j)
theorem ls_rev {s : ByteArray} {r : Int} {n k : Nat} (hk : k < n) : ∀ m, m ≤ n → lsF (rvY s r n) m (k : Int) = if n - 1 - k < m then [xpT s r k] else [] := by
  intro m
  induction m with
  | zero => intro _; rw [if_neg (by omega)]; rfl
  | succ m ih =>
    intro hm
    have hi : (rvY s r n m).i = ((n - 1 - m : Nat) : Int) := rfl
    by_cases h : n - 1 - m = k
    · rw [ls_yes (by rw [hi, h]), ih (by omega), if_neg (by omega), if_pos (by omega), List.nil_append]
      show [xpT s r (n - 1 - m)] = _
      rw [h]
    · rw [ls_no (by rw [hi]; omega), ih (by omega)]
      by_cases h2 : n - 1 - k < m
      · rw [if_pos h2, if_pos (by omega)]
      · rw [if_neg h2, if_neg (by omega)]
theorem rv_join {s : ByteArray} {r : Int} {n : Nat} (hs : s.size ≤ 400) (h : xpN s r = some n) : jpC (rvY s r n) n = 0 ∧ jpT (rvY s r n) n = s := by
  obtain ⟨h1, h8⟩ := xpN_in h
  have hpe : peC (rvY s r n) n = 0 := pe_ok ⟨h1, h8⟩ (fun j hj => smY_ok hs h8 (by omega)) (fun j hj => ⟨rfl, rfl⟩)
  have hc : (rvY s r n 0).c.toNat = n := by show ((n : Nat) : Int).toNat = n; omega
  have ho : oneEach (rvY s r n) n (rvY s r n 0).c.toNat := by
    rw [hc]
    intro k hk
    rw [ls_rev hk n (Nat.le_refl _), if_pos (by omega)]; rfl
  have hj : jnT (rvY s r n) n = s := by
    unfold jnT
    rw [hc]
    refine (jn_congr (T' := xpT s r) n fun k hk => ?_).trans (xp_all h)
    unfold txK
    rw [ls_rev hk n (Nat.le_refl _), if_pos (by omega)]; rfl
  obtain ⟨h3, h4⟩ := jp_ok hpe ho (by rw [hj]; rfl) (by rw [hj]; exact hs)
  exact ⟨h3, h4.trans hj⟩

/-- The parts without the one at index q. -/
def cutY (s : ByteArray) (r : Int) (n q : Nat) (j : Nat) : PtV := smY s r n (if j < q then j else j + 1)
theorem ls_cut {s : ByteArray} {r : Int} {n q k : Nat} (hk : k < n) : ∀ m, m + 1 ≤ n → lsF (cutY s r n q) m (k : Int) = if (k < q ∧ k < m) ∨ (q < k ∧ k ≤ m) then [xpT s r k] else [] := by
  intro m
  induction m with
  | zero => intro _; rw [if_neg (by omega)]; rfl
  | succ m ih =>
    intro hm
    have hi : (cutY s r n q m).i = ((if m < q then m else m + 1 : Nat) : Int) := rfl
    have ht : (cutY s r n q m).t = xpT s r (if m < q then m else m + 1) := rfl
    generalize hφ : (if m < q then m else m + 1) = φ at hi ht
    by_cases h : φ = k
    · have hmk : (m < q ∧ m = k) ∨ (q ≤ m ∧ m + 1 = k) := by split at hφ <;> omega
      rw [ls_yes (by rw [hi, h]), ih (by omega), if_neg (by omega), if_pos (by omega), List.nil_append, ht, h]
    · have hmk : (m < q ∧ m ≠ k) ∨ (q ≤ m ∧ m + 1 ≠ k) := by split at hφ <;> omega
      rw [ls_no (by rw [hi]; omega), ih (by omega)]
      by_cases h2 : (k < q ∧ k < m) ∨ (q < k ∧ k ≤ m)
      · rw [if_pos h2, if_pos (by omega)]
      · rw [if_neg h2, if_neg (by omega)]
theorem cut_all {s : ByteArray} {r : Int} {n q : Nat} (hs : s.size ≤ 400) (h8 : n ≤ 8) (h2 : 2 ≤ n) (hq : q < n) :
    peC (cutY s r n q) (n - 1) = 0 ∧ mpL (cutY s r n q) (n - 1) = [(q : Int)] ∧ jpC (cutY s r n q) (n - 1) = 5 ∧ jpT (cutY s r n q) (n - 1) = ⟨#[]⟩ := by
  have hpe : peC (cutY s r n q) (n - 1) = 0 := pe_ok ⟨by omega, by omega⟩ (fun j hj => smY_ok hs h8 (by split <;> omega)) (fun j hj => ⟨rfl, rfl⟩)
  have hc : (cutY s r n q 0).c.toNat = n := by show ((n : Nat) : Int).toNat = n; omega
  have hms : ∀ C, C ≤ n → msL (cutY s r n q) (n - 1) C = if q < C then [(q : Int)] else [] := by
    intro C
    induction C with
    | zero => intro _; rw [if_neg (by omega)]; rfl
    | succ C ih =>
      intro hC
      rw [ms_step, ih (by omega), ls_cut (by omega) (n - 1) (by omega)]
      by_cases h : C = q
      · subst h
        rw [if_neg (by omega : ¬ ((C < C ∧ C < n - 1) ∨ (C < C ∧ C ≤ n - 1))), if_pos rfl, if_neg (by omega), if_pos (by omega), List.nil_append]
      · rw [if_pos (by omega : (C < q ∧ C < n - 1) ∨ (q < C ∧ C ≤ n - 1)), if_neg (by simp)]
        by_cases h3 : q < C
        · rw [if_pos h3, if_pos (by omega)]
        · rw [if_neg h3, if_neg (by omega)]
  have hno : ¬ oneEach (cutY s r n q) (n - 1) (cutY s r n q 0).c.toNat := by
    rw [hc]
    intro ho
    have := ho q hq
    rw [ls_cut hq (n - 1) (by omega), if_neg (by omega)] at this
    cases this
  obtain ⟨h3, h4⟩ := jp_one hpe hno
  refine ⟨hpe, ?_, h3, h4⟩
  unfold mpL
  rw [if_pos hpe, hc, hms n (Nat.le_refl _), if_pos hq]
end Go.Proofs.Ythbmfaogjaahoaa

namespace Go.Proofs.Ythbmfaogjaahoaa
open Go Go.RowKit
set_option linter.unusedSimpArgs false
set_option linter.unusedVariables false

theorem sm_all (p k g : Int) (s : ByteArray) (hs : s.size ≤ 400) (cap : Int) : ∃ (n : Nat) (X : Nat → PtV) (c : Int), n ≤ 8 ∧ (c = 0 → ∃ r, xpN s r = some n ∧ X = smY s r n) ∧
    (∀ w : World, Calls Try.prog 22 #[.agg #[.int .i64 p, .int .i64 k, .int .i64 g], .string s, .int .i64 cap] w (NewPtI n X c w)) ∧
    (∀ w : World, Calls Try.prog 23 #[.agg #[.int .i64 p, .int .i64 k, .int .i64 g], .string s, .int .i64 cap] w (NewPtI n X c w)) := by
  rcases hb : fieldB p k g with _ | _
  · exact ⟨0, fun _ => PtV.zero, 1, by omega, (fun h => by cases h), fun w => specSm_no hb s cap w, fun w => implSm_no hb s cap w⟩
  · obtain ⟨q, mul, γ, hK, _⟩ := fieldB_open hb
    refine ⟨_, _, _, smL_le _ _ _, fun h => ?_, fun w => specSm hb hK s (by omega) cap w, fun w => implSm hb hK s (by omega) cap w⟩
    by_cases hin : inR cap 1 1500 = true
    · rcases ho : smO (wdt q) s cap with _ | n
      · have := (sm_none hin ho).1
        rw [this] at h; cases h
      · obtain ⟨h1, h2, h3⟩ := sm_some hin ho
        refine ⟨cap * wdt q - 17, ?_, ?_⟩
        · rw [h2]
          unfold smO at ho
          split at ho
          · exact ho
          · cases ho
        · rw [h3, h2]
    · have := (sm_range (W := wdt q) (s := s) (cap := cap) (by simpa using hin)).1
      rw [this] at h; cases h
/-- append(out, part), in a list of operations. -/
theorem wpList_appPt {P : Program} (hP : P = Try.prog) {base : Nat} {v : Value} {n : Nat} {f : Nat → Value} (w : World) {ops : Array Oper} {rest : List Oper} {o : Oper} {a : Act} {Q : Exit → Act → World → Prop} (hgd : o.guard = none) (s x : Operand)
    (ho : o.op = .call { callee := .builtin .append, args := #[s, x], argTypes := #[42, 42] })
    (hs : a.eval s = v) (h : OwnPt w base v n f) (y : PtV) (hf : f (n * 4) = .int .i64 y.i ∧ f (n * 4 + 1) = .int .i64 y.c ∧ f (n * 4 + 2) = .int .i64 y.p ∧ f (n * 4 + 3) = .string y.t)
    (hx : a.eval x = .slice (some ⟨w.heap.size, 0, none⟩) 1 1) (hlen : n ≤ 10000) (hbase : base ≤ w.heap.size)
    (hk : ∀ v' w', OwnPt w' base v' (n + 1) f → w.grownBy w' v.ownBlock → wpList P ops Q rest (a.put o.dst v') w') :
    wpList P ops Q (o :: rest) a (w.alloc (.cells #[.int .i64 y.i, .int .i64 y.c, .int .i64 y.p, .string y.t] 26)) := by
  subst hP
  refine wpList_step fun K hK => ?_
  rw [if_pos (by simp [Region.wanted, hgd])]
  exact wp_appPt w s x ho hs h y hf hx hlen hbase (fun v' w' h1 h2 => hK _ _ (hk v' w' h1 h2))
theorem OwnPt.lt {w : World} {base n : Nat} {v : Value} {f : Nat → Value} (h : OwnPt w base v n f) {g : Nat} (hg : v.ownBlock = some g) : base ≤ g ∧ g < w.heap.size := World.ownsRow.lt h g hg
/-- append(out, parts...): several parts, read from elsewhere. -/
theorem wp_appPts {base : Nat} {v : Value} {n m c off b : Nat} {f : Nat → Value} {X : Nat → PtV} (w : World) {o : Oper} {a : Act} {K : Act → World → Prop} {Q : Exit → Act → World → Prop} (s x : Operand)
    (ho : o.op = .call { callee := .builtin .append, args := #[s, x], argTypes := #[42, 42] })
    (hs : a.eval s = v) (h : OwnPt w base v n f) (hX : ∀ j, j < m → PtAt w b (off + j * 4) (X j))
    (hf : ∀ j, j < m → f ((n + j) * 4) = .int .i64 (X j).i ∧ f ((n + j) * 4 + 1) = .int .i64 (X j).c ∧ f ((n + j) * 4 + 2) = .int .i64 (X j).p ∧ f ((n + j) * 4 + 3) = .string (X j).t)
    (hx : a.eval x = .slice (some ⟨b, off, none⟩) m c) (hlen : n + m ≤ 10000) (hbase : base ≤ w.heap.size)
    (hk : ∀ v' w', OwnPt w' base v' (n + m) f → w.grownBy w' v.ownBlock → K (a.put o.dst v') w') :
    o.wp Try.prog a w K Q := by
  obtain ⟨i, hi, hz0, hz1, hz2⟩ := info_parts elemPt
  refine wp_append_own (w := w) s x 42 ho base 26 i _ 4 40 Try.underlying42 hi hz0 hz1 hz2 rfl (by decide) v n _ hs h ⟨b, off, none⟩ m c ((List.range (m * 4)).map (ptV X)) hx (by simp)
    (fun j u hj => ?_) (fun u hu => ?_) (by simp only [maxLen]; omega) (by omega) hbase fun v' w' h2 h3 _ => ?_
  · have hjm : j < m * 4 := by have := (List.getElem?_eq_some_iff.1 hj).1; simpa using this
    rw [List.getElem?_map, List.getElem?_range hjm] at hj
    simp only [Option.map_some, Option.some.injEq] at hj
    subst hj
    obtain ⟨t, r, hr, rfl⟩ : ∃ t r, r < 4 ∧ j = t * 4 + r := ⟨j / 4, j % 4, Nat.mod_lt _ (by decide), by omega⟩
    obtain ⟨a0, a1, a2, a3⟩ := hX t (by omega)
    obtain ⟨e0, e1, e2, e3⟩ := ptV_at X t
    rw [addr_add, ← Nat.add_assoc]
    match r, hr with
    | 0, _ => rw [Nat.add_zero, Nat.add_zero, e0]; exact a0
    | 1, _ => rw [e1]; exact a1
    | 2, _ => rw [e2]; exact a2
    | 3, _ => rw [e3]; exact a3
  · obtain ⟨j, _, rfl⟩ := List.mem_map.1 hu
    unfold ptV
    split
    · rfl
    · split
      · rfl
      · split <;> rfl
  · refine hk v' w' ?_ h3
    unfold OwnPt
    have e : (List.range ((n + m) * 4)).map f = (List.range (n * 4)).map f ++ (List.range (m * 4)).map (ptV X) := by
      rw [Nat.add_mul, List.range_add, List.map_append, List.map_map]
      refine congrArg _ (List.map_congr_left fun j hj => ?_)
      have hjm : j < m * 4 := List.mem_range.1 hj
      obtain ⟨t, r, hr, rfl⟩ : ∃ t r, r < 4 ∧ j = t * 4 + r := ⟨j / 4, j % 4, Nat.mod_lt _ (by decide), by omega⟩
      obtain ⟨f0, f1, f2, f3⟩ := hf t (by omega)
      obtain ⟨e0, e1, e2, e3⟩ := ptV_at X t
      simp only [Function.comp]
      rw [show n * 4 + (t * 4 + r) = (n + t) * 4 + r by omega]
      match r, hr with
      | 0, _ => rw [Nat.add_zero, Nat.add_zero, f0, e0]
      | 1, _ => rw [f1, e1]
      | 2, _ => rw [f2, e2]
      | 3, _ => rw [f3, e3]
    rw [e]; exact h2
end Go.Proofs.Ythbmfaogjaahoaa
