/-
  The algorithm of Euclid for the locator polynomial of errors: what it keeps, and what it ends with.
  No condition but those of each statement.
-/
import Derived.Test.YtpheembgjdgniaaDMath
namespace Go.Proofs.Ytpheembgjdgniaa
section
variable {R : Fld}

/-- What a step of the algorithm keeps, for c syndromes, r erasures and the evaluator T of the erasures: two remainders a and b, and the factors u and v beside them. -/
structure Eu (c r : Nat) (T a b u v : List (El R)) : Prop where
  ta : Tr a
  tb : Tr b
  tu : Tr u
  tv : Tr v
  va : ∀ i, i < c → ps (cf u) (cf T) i = cf a i
  vb : ∀ i, i < c → ps (cf v) (cf T) i = cf b i
  len : a.length + v.length = c + 2
  ba : b.length < a.length
  uv : u.length < v.length
  big : c + r + 2 ≤ 2 * a.length
/-- x^c. -/
def xpow (c : Nat) : List (El R) := tab (c + 1) fun i => if i = c then 1 else 0
theorem xpow_len (c : Nat) : (xpow c : List (El R)).length = c + 1 := tab_len _ _
theorem tr_xpow (c : Nat) : Tr (xpow c : List (El R)) := fun i hi => by
  rw [xpow_len] at hi
  obtain rfl : i = c := by omega
  rw [xpow, cf_tab, if_pos (by omega), if_pos rfl]; exact e10
theorem Eu.start {c r : Nat} {T : List (El R)} (hT : Tr T) (hl : T.length ≤ c) (hr : r ≤ c) : Eu c r T (xpow c) T [] [1] where
  ta := tr_xpow c
  tb := hT
  tu := tr_nil
  tv := tr_one
  va := fun i hi => by
    rw [show (cf [] : Nat → El R) = fun _ => 0 from funext cf_nil, ps_zeroL, xpow, cf_tab, if_pos (by omega), if_neg (by omega)]
  vb := fun i hi => by rw [ps_one]
  len := by rw [xpow_len]; simp
  ba := by rw [xpow_len]; omega
  uv := by simp
  big := by rw [xpow_len]; omega
theorem mul_len {p q : List (El R)} (hp : 0 < p.length) (hq : 0 < q.length) : (mulP p q).length = p.length + q.length - 1 := by rw [mulP, tab_len, plen_1 hp hq]
theorem Eu.step {c r : Nat} {T a b u v v' : List (El R)} (h : Eu c r T a b u v) (hb : c + r + 2 ≤ 2 * b.length) (ht : Tr v') (hv : cf v' = fun i => cf u i + -(ps (cf (quoP a b)) (cf v) i)) :
    Eu c r T b (remP a b) v v' ∧ v'.length = a.length - b.length + v.length := by
  have hba := h.ba
  have huv := h.uv
  have hlen := h.len
  have hb0 : 0 < b.length := by omega
  have hq : (quoP a b).length = a.length - b.length + 1 := quo_len (by omega)
  have hql := quo_len (p := a) (q := b) (by omega)
  have htq := tr_quo h.ta h.tb hb0
  have hl : v'.length = a.length - b.length + v.length := by
    refine Nat.le_antisymm (tr_len ht fun i hi => ?_) ?_
    · rw [hv]
      show cf u i + -(ps _ _ i) = 0
      rw [cf_out (by omega), e0a, ps_far (n := a.length - b.length + 1) (m := v.length) (fun j hj => cf_out (by omega)) (cf_far v) i (by omega), en0]
    · refine Nat.le_of_not_lt fun hlt => ?_
      have h1 : cf v' (a.length - b.length + v.length - 1) = 0 := cf_out (by omega)
      rw [hv] at h1
      have h2 : ps (cf (quoP a b)) (cf v) (a.length - b.length + (v.length - 1)) = cf (quoP a b) (a.length - b.length) * cf v (v.length - 1) :=
        ps_top (fun j hj => cf_out (by omega)) (fun j hj => cf_out (by omega))
      simp only at h1
      rw [cf_out (p := u) (by omega), e0a, show a.length - b.length + v.length - 1 = a.length - b.length + (v.length - 1) by omega, h2] at h1
      exact eneg_ne (emul_ne (htq _ (by omega)) (h.tv _ (by omega))) h1
  refine ⟨⟨h.tb, tr_rem h.ta, h.tv, ht, h.vb, fun i hi => ?_, by omega, rem_len h.tb hb0, by omega, hb⟩, hl⟩
  rw [hv, ps_addL, ps_negL, h.va i hi, ← ps_assoc]
  have e1 := div_sum (p := a) h.tb hb0 i
  rw [cf_mul] at e1
  rw [ps_local (f := cf (quoP a b)) (f' := cf (quoP a b)) (g := ps (cf v) (cf T)) (g' := cf b) (fun _ _ => rfl) (fun j hj => h.vb j (by omega)), e1]
  rw [eac (ps _ _ i), eaa, ean, ea0]

theorem evN_ps {x : El R} {f g : Nat → El R} {n m K : Nat} (hf : ∀ i, n ≤ i → f i = 0) (hg : ∀ i, m ≤ i → g i = 0) (hK : n + m ≤ K) : evN x (ps f g) K = evN x f n * evN x g m := by
  rw [← mulN_ps g hf, evN_stop (n := n + m) (fun i hi => mulN_far f hg n i hi) K hK, evN_mulN x f hg n]
/-- What the algorithm ends with. -/
theorem Eu.final {c l : Nat} {T a b u v : List (El R)} {xe xf : List (El R)} {γ : El R} {D : Nat → El R} {num : Nat → El R}
    (h : Eu c xe.length T a b u v) (hstop : 2 * b.length < c + xe.length + 2) (n0 : num 0 = 0) (n1 : ∀ j, num (j + 1) = num j + 1)
    (hF : Far γ l) (hx : ∀ x ∈ xe ++ xf, x ≠ 0) (hd : (xe ++ xf).Nodup) (hD : ∀ i, i < l → D i = 0 ∨ epw γ i ∈ xe ++ xf)
    (hf : ∀ x ∈ xf, ∃ k, k < l ∧ x = epw γ k ∧ D k ≠ 0) (hw : 2 * xf.length + xe.length ≤ c)
    (hT : ∀ i, i < c → cf T i = ps (cf (locP xe)) (ser γ D l) i) :
    v.length = xf.length + 1 ∧ cf v 0 ≠ 0 ∧ cf v = fun i => cf v 0 * cf (locP xf) i := by
  have hxf : ∀ x ∈ xf, x ≠ 0 := fun x hm => hx x (List.mem_append_right _ hm)
  have hlen := h.len
  have hba := h.ba
  have huv := h.uv
  have hbig := h.big
  let O : Nat → El R := ps (cf (locP (xe ++ xf))) (ser γ D l)
  have hO : ∀ i, (xe ++ xf).length ≤ i → O i = 0 := loc_ser_far hx hD
  rw [List.length_append] at hO
  have hLf : ∀ i, xf.length + 1 ≤ i → cf (locP xf) i = 0 := fun i hi => cf_out (by rw [loc_len hxf]; exact hi)
  have hLT : ∀ i, i < c → ps (cf (locP xf)) (cf T) i = O i := fun i hi => by
    show _ = ps (cf (locP (xe ++ xf))) (ser γ D l) i
    rw [loc_app, ps_comm (cf (locP xe)), ← ps_assoc]
    exact ps_local (fun _ _ => rfl) (fun j hj => hT j (by omega))
  -- both of the identities, first below x^c, then everywhere
  have hvO : ps (cf v) O = ps (cf (locP xf)) (cf b) := by
    funext i
    rcases Nat.lt_or_ge i c with hi | hi
    · have e1 : ps (cf v) O i = ps (cf v) (ps (cf (locP xf)) (cf T)) i := ps_local (fun _ _ => rfl) (fun j hj => (hLT j (by omega)).symm)
      rw [e1, ps_left]
      exact ps_local (fun _ _ => rfl) (fun j hj => h.vb j (by omega))
    · rw [ps_far (n := v.length) (m := xe.length + xf.length) (cf_far v) hO i (by omega), ps_far (n := xf.length + 1) (m := b.length) hLf (cf_far b) i (by omega)]
  have hroot : ∀ x ∈ xf, ev x.inv v = 0 := by
    intro x hm
    obtain ⟨k, hk, rfl, hne⟩ := hf x hm
    have hr := einv (epw_ne hF.1 k)
    have hmm : epw γ k ∈ xe ++ xf := List.mem_append_right _ hm
    have e1 : ev (epw γ k).inv v * evN (epw γ k).inv O (xe.length + xf.length) = 0 := by
      rw [ev_is, ← evN_ps (cf_far v) hO (K := v.length + (xe.length + xf.length) + (xf.length + 1 + b.length)) (by omega), hvO, evN_ps hLf (cf_far b) (by omega), ← ev_far (by rw [loc_len hxf]; exact Nat.le_refl _), (ev_loc _ xf).2 ⟨_, hm, hr⟩, e0m]
    have e2 := loc_ser_ev n0 n1 hx hmm hr hD (fun i hi hne => hF.2 i k hi (by omega) hne)
    rw [if_pos hk, List.length_append] at e2
    refine Classical.byContradiction fun hv => emul_ne hv ?_ e1
    show evN _ (ps (cf (locP (xe ++ xf))) (ser γ D l)) _ ≠ 0
    rw [e2]
    exact eneg_ne (emul_ne hne (der_ne n0 n1 hd hmm hr))
  have hdf : xf.Nodup := (List.nodup_append.1 hd).2.1
  have hnd : (xf.map El.inv).Nodup := by
    refine List.pairwise_map.2 (List.Pairwise.imp_of_mem (fun {a b} ha hb hne e => hne ?_) hdf)
    have h1 := einv (hxf a ha)
    have h2 := einv (hxf b hb)
    rw [← e] at h2
    exact inv_only h1 h2
  have hge : xf.length < v.length := by
    have := roots_few h.tv (by omega) hnd (fun x hm => by
      obtain ⟨y, hy, rfl⟩ := List.mem_map.1 hm
      exact hroot y hy)
    rwa [List.length_map] at this
  have hle : v.length ≤ xf.length + 1 := by
    refine Nat.le_of_not_lt fun hlt => ?_
    have huO : ps (cf u) O = ps (cf (locP xf)) (cf a) := by
      funext i
      rcases Nat.lt_or_ge i c with hi | hi
      · have e1 : ps (cf u) O i = ps (cf u) (ps (cf (locP xf)) (cf T)) i := ps_local (fun _ _ => rfl) (fun j hj => (hLT j (by omega)).symm)
        rw [e1, ps_left]
        exact ps_local (fun _ _ => rfl) (fun j hj => h.va j (by omega))
      · rw [ps_far (n := u.length) (m := xe.length + xf.length) (cf_far u) hO i (by omega), ps_far (n := xf.length + 1) (m := a.length) hLf (cf_far a) i (by omega)]
    have e : ps (cf (locP xf)) (ps (cf v) (cf a)) = ps (cf (locP xf)) (ps (cf u) (cf b)) := by
      rw [ps_left, ← huO, ps_left, hvO, ps_left]
    have e1 := congrFun e (xf.length + (v.length - 1 + (a.length - 1)))
    have hva : ∀ i, v.length - 1 + (a.length - 1) + 1 ≤ i → ps (cf v) (cf a) i = 0 := fun i hi => ps_far (cf_far v) (cf_far a) i (by omega)
    rw [ps_top hLf hva, ps_top (n := v.length - 1) (m := a.length - 1) (fun i hi => cf_out (by omega)) (fun i hi => cf_out (by omega))] at e1
    have hub : ∀ i, v.length - 1 + (a.length - 1) ≤ i → ps (cf u) (cf b) i = 0 := fun i hi => ps_far (n := u.length) (m := b.length) (cf_far u) (cf_far b) i (by omega)
    rw [ps_far (n := xf.length + 1) hLf hub _ (by omega)] at e1
    refine emul_ne (tr_loc hxf xf.length (by rw [loc_len hxf])) (emul_ne (h.tv _ (by omega)) (h.ta _ (by omega))) e1
  have hv : v.length = xf.length + 1 := by omega
  have hz := loc_zero hxf
  have hG : ∀ i, cf v i + -(cf v 0 * cf (locP xf) i) = 0 := by
    refine roots_zero (xf.length + 1) (fun i => cf v i + -(cf v 0 * cf (locP xf) i)) (0 :: xf.map El.inv) (List.nodup_cons.2 ⟨fun hm => ?_, hnd⟩) (by simp) (fun i hi => ?_) (fun x hm => ?_)
    · obtain ⟨y, hy, e⟩ := List.mem_map.1 hm
      exact einv_ne (hxf y hy) e
    · rw [hLf i hi, cf_out (by omega), em0, en0, ea0]
    · rw [evN_add, evN_neg, evN_mul, ← ev_far (by omega), ← ev_far (by rw [loc_len hxf]; exact Nat.le_refl _)]
      rcases List.mem_cons.1 hm with rfl | hm
      · have z : ∀ p : List (El R), ev 0 p = cf p 0 := fun p => by
          cases p with
          | nil => rfl
          | cons a p => show ev 0 p * 0 + a = a; rw [em0, e0a]
        rw [z, z, hz, em1, ean]
      · obtain ⟨y, hy, rfl⟩ := List.mem_map.1 hm
        rw [hroot y hy, (ev_loc _ xf).2 ⟨y, hy, einv (hxf y hy)⟩, em0, en0, ea0]
  have hE : cf v = fun i => cf v 0 * cf (locP xf) i := funext fun i => esub (hG i)
  refine ⟨hv, fun h0 => ?_, hE⟩
  refine h.tv (v.length - 1) (by omega) ?_
  rw [hE]
  show cf v 0 * _ = 0
  rw [h0, e0m]
end
end Go.Proofs.Ytpheembgjdgniaa
