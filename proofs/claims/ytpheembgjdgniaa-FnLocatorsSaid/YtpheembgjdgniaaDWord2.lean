/-
  When a word with erasures is corrected, and to what: by what the algorithm of Euclid ends with.
  No condition but those of each statement.
-/
import Derived.Test.YtpheembgjdgniaaDWord
namespace Go.Proofs.Ytpheembgjdgniaa
section
variable {R : Fld} {γ : El R} {l c : Nat}
/-- The product of the locator polynomial of the erasures and what the algorithm ends with, with 1 as its first coefficient. -/
def fullP (γ : El R) (l : Nat) (E : List Nat) (v : List (El R)) : List (El R) := mulP (locP (locs γ l E)) (scaP (cf v 0).inv v)
section
variable (hF : Far γ l)
include hF
theorem mul_locs {P Q : List Nat} (hP : Idx l P) (hQ : Idx l Q) (hd : ∀ i ∈ P, i ∉ Q) : mulP (locP (locs γ l P)) (locP (locs γ l Q)) = locP (locs γ l (union l P Q)) := by
  have hp := locs_ne hF P
  have hq := locs_ne hF Q
  have ht : Tr (mulP (locP (locs γ l P)) (locP (locs γ l Q))) := tr_mul (tr_loc hp) (tr_loc hq)
  have hh : hits γ l (mulP (locP (locs γ l P)) (locP (locs γ l Q))) = union l P Q := by
    refine sorted_ext (hits_idx _ _ _).1 (union_idx l P Q).1 fun i => ?_
    rw [hits_mem, union_mem, ev_mul]
    constructor
    · rintro ⟨hi, h0⟩
      refine ⟨hi, ?_⟩
      by_cases h1 : ev (lcE γ l i).inv (locP (locs γ l P)) = 0
      · exact .inl ((ev_locs hF hP.2 hi).1 h1)
      · by_cases h2 : ev (lcE γ l i).inv (locP (locs γ l Q)) = 0
        · exact .inr ((ev_locs hF hQ.2 hi).1 h2)
        · exact absurd h0 (emul_ne h1 h2)
    · rintro ⟨hi, h0⟩
      refine ⟨hi, ?_⟩
      rcases h0 with h0 | h0
      · rw [(ev_locs hF hP.2 hi).2 h0, e0m]
      · rw [(ev_locs hF hQ.2 hi).2 h0, em0]
  have hl : (union l P Q).length = P.length + Q.length := len_both hP.nodup hQ.nodup (union_idx l P Q).nodup hd fun i => by
    rw [union_mem]
    exact ⟨fun h => h.2, fun h => ⟨h.elim (hP.2 i) (hQ.2 i), h⟩⟩
  have hb : locB γ l (mulP (locP (locs γ l P)) (locP (locs γ l Q))) = true := by
    simp only [locB, decide_eq_true_eq]
    rw [hh, hl, mul_len (by rw [loc_len hp]; omega) (by rw [loc_len hq]; omega), loc_len hp, loc_len hq, locs_len, locs_len]
    refine ⟨by omega, ?_, by omega⟩
    rw [cf_mul, ps_0, loc_zero hp, loc_zero hq]; exact em1 1
  have := locB_is hF ht hb
  rw [hh] at this
  exact this.symm
section
variable {num : Nat → El R} (n0 : num 0 = 0) (n1 : ∀ j, num (j + 1) = num j + 1)
include n0 n1
/-- For a word with a code word within the bound the program finds the indices. -/
theorem found {E : List Nat} (hE : Idx l E) {ws cw : List (El R)} (hw : ws.length = l) (ho : Okw γ l c E ws cw) {a b u v : List (El R)}
    (h : Eu c E.length (keyP γ l c ws E) a b u v) (hstop : 2 * b.length < c + E.length + 2) :
    cf v 0 ≠ 0 ∧ (∀ i, i < l → (i ∈ hits γ l v ↔ i ∈ errs l E ws cw)) ∧ locB γ l (fullP γ l E v) = true ∧ hits γ l (fullP γ l E v) = union l E (errs l E ws cw) ∧ (union l E (errs l E ws cw)).length ≤ c := by
  obtain ⟨h1, h2, h3⟩ := word_final (num := num) hF n0 n1 hE hw ho h hstop
  have hI : Idx l (errs l E ws cw) := idx_filter _ _
  have hd : ∀ i ∈ E, i ∉ errs l E ws cw := fun i hi hn => (errs_mem.1 hn).2.1 hi
  have hne := locs_ne hF (errs l E ws cw)
  have hsc : scaP (cf v 0).inv v = locP (locs γ l (errs l E ws cw)) := by
    refine tr_ext (tr_sca _ _) (tr_loc hne) ?_
    rw [cf_sca, h3]
    funext i
    simp only
    rw [← ema, loc_zero hne, em1, emc (cf v 0).inv, einv h2, e1m]
  have hfp : fullP γ l E v = locP (locs γ l (union l E (errs l E ws cw))) := by rw [fullP, hsc]; exact mul_locs hF hE hI hd
  refine ⟨h2, fun i hi => ?_, by rw [hfp]; exact locB_locs hF (union_idx _ _ _), by rw [hfp]; exact hits_locs hF (union_idx _ _ _), ?_⟩
  · rw [hits_mem]
    have he : ev (lcE γ l i).inv v = cf v 0 * ev (lcE γ l i).inv (locP (locs γ l (errs l E ws cw))) := by
      rw [ev_of (n := v.length) (f := cf v) rfl (cf_far v), evN_congr (g := fun i => cf v 0 * cf (locP (locs γ l (errs l E ws cw))) i) v.length (fun i _ => congrFun h3 i), evN_mul, ← ev_far (by rw [loc_len hne, locs_len]; omega)]
    rw [he]
    constructor
    · rintro ⟨_, h0⟩
      exact (ev_locs hF hI.2 hi).1 (Classical.byContradiction fun hn => emul_ne h2 hn h0)
    · intro hm
      exact ⟨hi, by rw [(ev_locs hF hI.2 hi).2 hm, em0]⟩
  · rw [len_both hE.nodup hI.nodup (union_idx l E (errs l E ws cw)).nodup hd fun i => by
      rw [union_mem]
      exact ⟨fun h => h.2, fun h => ⟨h.elim (hE.2 i) (hI.2 i), h⟩⟩]
    have := ho.2.2
    omega
theorem found_cor {E : List Nat} {ws cw : List (El R)} (hw : ws.length = l) (ho : Okw γ l c E ws cw) {J : List Nat} (hJ : Idx l J) (hJe : ∀ i, i < l → (i ∈ J ↔ i ∈ E ∨ i ∈ errs l E ws cw)) (hJc : J.length ≤ c) :
    valB γ l c (synW γ c ws) J = true ∧ corW num γ l c ws J = cw :=
  cor_is hF n0 n1 hJ hJc hw ho.1 ho.2.1 fun i hi hne => (hJe i hi).2 (by
    by_cases h : i ∈ E
    · exact .inl h
    · exact .inr (errs_mem.2 ⟨hi, h, hne⟩))
omit hF n0 n1 in
theorem errs_few {E J : List Nat} (hE : Idx l E) {ws : List (El R)} (hw : ws.length = l) (hs : ∀ i ∈ E, i ∈ J) : (errs l E ws (corW num γ l c ws J)).length + E.length ≤ J.length := by
  have hI : Idx l (errs l E ws (corW num γ l c ws J)) := idx_filter _ _
  have := len_le_of_sub (a := errs l E ws (corW num γ l c ws J) ++ E) (b := J) (List.nodup_append.2 ⟨hI.nodup, hE.nodup, fun x hx y hy e => (errs_mem.1 hx).2.1 (e ▸ hy)⟩) (fun i hi => by
    rcases List.mem_append.1 hi with hi | hi
    · exact (cor_errs hw i hi).1
    · exact hs i hi)
  rwa [List.length_append] at this
/-- What the program accepts is a code word within the bound. -/
theorem sound {E : List Nat} (hE : Idx l E) {ws : List (El R)} (hw : ws.length = l) {a b u v : List (El R)}
    (h : Eu c E.length (keyP γ l c ws E) a b u v) (hv0 : cf v 0 ≠ 0) (hB : locB γ l (fullP γ l E v) = true) :
    (hits γ l (fullP γ l E v)).length ≤ c ∧ (valB γ l c (synW γ c ws) (hits γ l (fullP γ l E v)) = true → Okw γ l c E ws (corW num γ l c ws (hits γ l (fullP γ l E v)))) := by
  have hne := locs_ne hF E
  have hroom := eu_room h
  have hvl : 0 < v.length := by have := h.uv; omega
  have hsl : (scaP (cf v 0).inv v).length = v.length := sca_len (einv_ne hv0) h.tv
  have hlen : (fullP γ l E v).length = E.length + v.length := by
    rw [fullP, mul_len (by rw [loc_len hne]; omega) (by omega), loc_len hne, locs_len, hsl]; omega
  have hB' := hB
  simp only [locB, decide_eq_true_eq] at hB'
  have hJ := hits_idx γ l (fullP γ l E v)
  have hs : ∀ i ∈ E, i ∈ hits γ l (fullP γ l E v) := fun i hi => hits_mem.2 ⟨hE.2 i hi, by
    rw [fullP, ev_mul, (ev_locs hF hE.2 (hE.2 i hi)).2 hi, e0m]⟩
  have hJc : (hits γ l (fullP γ l E v)).length ≤ c := by omega
  refine ⟨hJc, fun hv => ⟨by rw [corW_len, hw], cor_cw hF n0 n1 hJ hJc hw hv, ?_⟩⟩
  have := errs_few (num := num) (γ := γ) (c := c) hE hw hs
  omega
end
end
end
end Go.Proofs.Ytpheembgjdgniaa
