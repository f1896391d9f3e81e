/-
  Fitting: the arithmetic, and the program's own loop.
  Condition: none.
-/
import Derived.Test.YthafkohopkgckaaPolyMath4
import Derived.Test.YthafkohopkgckaaPSpec2
namespace Go.Proofs.Ythafkohopkgckaa
section
variable {R : Fld}
theorem ev_sca (x c : El R) (p : List (El R)) : ev x (scaP c p) = c * ev x p := by
  rw [ev_of (n := p.length) (cf_sca c p) (fun i hi => by rw [cf_out hi, em0]), evN_mul, ← ev_is]
theorem ev_trim (x : El R) (p : List (El R)) : ev x (trim p) = ev x p := by
  rw [ev_of (n := p.length) (cf_trim p) (fun i hi => cf_out hi), ← ev_is]
theorem ev_num (x a : El R) : ev x [a] = a := by
  show (0 : El R) * x + a = a
  rw [e0m, e0a]
theorem tr_num {a : El R} (h : a ≠ 0) : Tr [a] := fun i hi => by
  obtain rfl : i = 0 := by simpa using hi
  exact h
theorem sca_le (c : El R) (p : List (El R)) : (scaP c p).length ≤ p.length := by
  have := trim_le (tab p.length fun i => c * cf p i)
  rw [tab_len] at this; exact this
theorem add_le (p q : List (El R)) : (addP p q).length ≤ max p.length q.length := by
  have := trim_le (tab (max p.length q.length) fun i => cf p i + cf q i)
  rw [tab_len] at this; exact this
theorem tr_add (p q : List (El R)) : Tr (addP p q) := tr_trim _

/-- The elements are all different. -/
def Apart (xs : List (El R)) : Prop := ∀ i j, i < j → j < xs.length → cf xs i ≠ cf xs j

/-- What the program has reckoned with the first elements. -/
structure Fitted (xs ys : List (El R)) (i : Nat) (fit rooted : List (El R)) : Prop where
  trF : Tr fit
  lenF : fit.length ≤ i
  valF : ∀ j, j < i → ev (cf xs j) fit = cf ys j
  trR : Tr rooted
  lenR : rooted.length = i + 1
  zeroR : ∀ j, j < i → ev (cf xs j) rooted = 0
  neR : ∀ x, (∀ j, j < i → x ≠ cf xs j) → ev x rooted ≠ 0
theorem fitted_0 (xs ys : List (El R)) : Fitted xs ys 0 [] [1] :=
  ⟨tr_nil, Nat.le_refl _, fun j hj => by omega, tr_num e10, rfl, fun j hj => by omega, fun x _ => by rw [ev_num]; exact e10⟩
def fitK (xs ys : List (El R)) (i : Nat) (fit rooted : List (El R)) : El R := (cf ys i + -(ev (cf xs i) fit)) * (ev (cf xs i) rooted).inv
theorem fitted_step {xs ys : List (El R)} {i : Nat} {fit rooted : List (El R)} (ha : Apart xs) (hi : i < xs.length) (h : Fitted xs ys i fit rooted) :
    Fitted xs ys (i + 1) (addP fit (scaP (fitK xs ys i fit rooted) rooted)) (mulP rooted (lin (cf xs i))) := by
  have hne := h.neR (cf xs i) (fun j hj => (ha j i hj hi).symm)
  refine ⟨tr_add _ _, ?_, fun j hj => ?_, tr_mul h.trR (tr_lin _), ?_, fun j hj => ?_, fun x hx => ?_⟩
  · have h1 := add_le fit (scaP (fitK xs ys i fit rooted) rooted)
    have h2 := sca_le (fitK xs ys i fit rooted) rooted
    have h3 := h.lenF
    have h4 := h.lenR
    omega
  · rw [ev_add, ev_sca]
    rcases Nat.lt_or_ge j i with h1 | h1
    · rw [h.zeroR j h1, em0, ea0]; exact h.valF j h1
    · obtain rfl : j = i := by omega
      rw [fitK, ema, emc _ (ev (cf xs j) rooted), einv hne, em1, eac, eaa, ena, ea0]
  · rw [mulP, tab_len, plen_1 (by rw [h.lenR]; omega) (by simp [lin]), h.lenR]; simp [lin]
  · rw [ev_mul, ev_lin]
    rcases Nat.lt_or_ge j i with h1 | h1
    · rw [h.zeroR j h1, e0m]
    · obtain rfl : j = i := by omega
      rw [ean, em0]
  · rw [ev_mul, ev_lin]
    exact emul_ne (h.neR x fun j hj => hx j (by omega)) (esub_ne (hx i (by omega)))

/-- The product of the factors of the other elements, and its value at the element i. -/
structure Term (xs : List (El R)) (i k : Nat) (term : List (El R)) (under : El R) : Prop where
  tr : Tr term
  len : term.length + (if i < k then 1 else 0) ≤ k + 1
  zero : ∀ j, j < k → j ≠ i → ev (cf xs j) term = 0
  val : ev (cf xs i) term = under
  ne : under ≠ 0
theorem term_0 (xs : List (El R)) (i : Nat) : Term xs i 0 [1] 1 :=
  ⟨tr_num e10, by simp, fun j hj => by omega, ev_num _ _, e10⟩
theorem term_skip {xs : List (El R)} {i : Nat} {term : List (El R)} {under : El R} (h : Term xs i i term under) : Term xs i (i + 1) term under :=
  ⟨h.tr, by have := h.len; rw [if_neg (by omega)] at this; rw [if_pos (by omega)]; omega, fun j hj hne => h.zero j (by omega) hne, h.val, h.ne⟩
theorem term_step {xs : List (El R)} {i k : Nat} {term : List (El R)} {under : El R} (ha : Apart xs) (hi : i < xs.length) (hk : k < xs.length) (hne : k ≠ i) (h : Term xs i k term under) :
    Term xs i (k + 1) (trim (mulP term (lin (cf xs k)))) (under * (cf xs i + -(cf xs k))) := by
  have hx : cf xs i ≠ cf xs k := by
    rcases Nat.lt_or_ge i k with h1 | h1
    · exact ha i k h1 hk
    · exact (ha k i (by omega) hi).symm
  refine ⟨tr_trim _, ?_, fun j hj hji => ?_, ?_, emul_ne h.ne (esub_ne hx)⟩
  · have h1 := trim_le (mulP term (lin (cf xs k)))
    have h2 : (mulP term (lin (cf xs k))).length ≤ term.length + 1 := by rw [mulP, tab_len]; unfold plen; split; omega; simp [lin]
    have h3 := h.len
    split at h3 <;> split <;> omega
  · rw [ev_trim, ev_mul, ev_lin]
    rcases Nat.lt_or_ge j k with h1 | h1
    · rw [h.zero j h1 hji, e0m]
    · obtain rfl : j = k := by omega
      rw [ean, em0]
  · rw [ev_trim, ev_mul, ev_lin, h.val]

/-- What the model has summed up. -/
structure Summed (xs ys : List (El R)) (i : Nat) (out : List (El R)) : Prop where
  tr : Tr out
  len : out.length ≤ xs.length
  val : ∀ j, j < i → ev (cf xs j) out = cf ys j
  zero : ∀ j, i ≤ j → j < xs.length → ev (cf xs j) out = 0
theorem summed_0 (xs ys : List (El R)) : Summed xs ys 0 [] := ⟨tr_nil, Nat.zero_le _, fun j hj => by omega, fun j _ _ => rfl⟩
theorem summed_step {xs ys : List (El R)} {i : Nat} {out term : List (El R)} {under : El R} (hi : i < xs.length) (h : Summed xs ys i out) (ht : Term xs i xs.length term under) :
    Summed xs ys (i + 1) (addP out (trim (mulP term (trim [cf ys i * under.inv])))) := by
  have hl : (trim (mulP term (trim [cf ys i * under.inv]))).length ≤ xs.length := by
    have h1 := trim_le (mulP term (trim [cf ys i * under.inv]))
    have h2 : (trim [cf ys i * under.inv]).length ≤ 1 := trim_le _
    have h3 : (mulP term (trim [cf ys i * under.inv])).length ≤ term.length := by rw [mulP, tab_len]; unfold plen; split <;> omega
    have h4 := ht.len
    rw [if_pos hi] at h4
    omega
  have he : ∀ x, ev x (trim (mulP term (trim [cf ys i * under.inv]))) = ev x term * (cf ys i * under.inv) := fun x => by
    rw [ev_trim, ev_mul, ev_trim, ev_num]
  refine ⟨tr_add _ _, ?_, fun j hj => ?_, fun j h1 h2 => ?_⟩
  · have h1 := add_le out (trim (mulP term (trim [cf ys i * under.inv])))
    have h2 := h.len
    omega
  · rw [ev_add, he]
    rcases Nat.lt_or_ge j i with h1 | h1
    · rw [ht.zero j (by omega) (by omega), e0m, ea0]; exact h.val j h1
    · obtain rfl : j = i := by omega
      rw [h.zero j (Nat.le_refl _) hi, ht.val, eml, einv ht.ne, em1, e0a]
  · rw [ev_add, he, h.zero j (by omega) h2, ht.zero j h2 (by omega), e0m, ea0]
theorem apart_nodup {xs : List (El R)} (ha : Apart xs) : xs.Nodup := by
  rw [List.nodup_iff_pairwise_ne, List.pairwise_iff_getElem]
  intro i j hi hj hij e
  refine ha i j hij hj ?_
  rw [cf_at (List.getElem?_eq_getElem hi), cf_at (List.getElem?_eq_getElem hj)]
  exact e
/-- Both are the same. -/
theorem fit_same {xs ys fit rooted out : List (El R)} (ha : Apart xs) (h : Fitted xs ys xs.length fit rooted) (h' : Summed xs ys xs.length out) : out = fit := by
  refine fit_only h'.tr h.trF h'.len h.lenF (apart_nodup ha) fun x hx => ?_
  obtain ⟨j, hj, rfl⟩ := List.getElem_of_mem hx
  have e : xs[j] = cf xs j := (cf_at (List.getElem?_eq_getElem hj)).symm
  rw [e, h'.val j hj, h.valF j hj]
end
end Go.Proofs.Ythafkohopkgckaa

namespace Go.Proofs.Ythafkohopkgckaa
open Go.RowKit
set_option linter.unusedSimpArgs false
set_option linter.unusedVariables false

def IxRel (n : Nat) (v : Int) (zs : List Int) (i : Value) : Prop := ∃ j : Nat, j ≤ n ∧ i = .int .i64 j ∧ Hid (v ∉ zs.take j)
theorem mem_snoc {v x : Int} {zs : List Int} {j : Nat} (hx : zs[j]? = some x) (h : v ∉ zs.take j) (hne : v ≠ x) : v ∉ zs.take (j + 1) := by
  rw [take_snocI hx, List.mem_append]
  simp [h, hne]

def IxPost (v : Int) (zs : List Int) (w : World) (e : Ending) (w' : World) : Prop := ∃ r : Int, e = .returned (.int .i64 r) ∧ w = w' ∧ decide (0 ≤ r) = decide (v ∈ zs)
/-- Whether a list has an element twice. -/
def twB (zs : List Int) : Bool := decide (¬ zs.Nodup)

set_option maxHeartbeats 1000000 in
theorem indexI (A : Option Addr) (n c B : Nat) (v : Int) (zs : List Int) (w : World) (hI : Ints .i64 w B A n zs) (hn : n ≤ 1099511627776) :
    Calls Try.prog 117 #[.slice A n c, .int .i64 v] w (IxPost v zs w) := by
  have HI := hide hI
  have hl := hide hI.len
  clear hI
  go_enter Try.func117, Try.ntmps117
  go_wp2_with fail
  go_loop [8] (fun i => IxRel n v zs i) (fun i => n - (intOf i).toNat)
  case atStart => exact ⟨0, by omega, rfl, by simp [Hid]⟩
  case round =>
    obtain ⟨j, hj, rfl, HA⟩ := hrel
    by_cases hlt : j < n
    · obtain ⟨b, off, x, rfl, hb, hx, hc⟩ := HI.out.at_ hlt
      have HXX := hide hx
      clear hx
      by_cases hv : v = x
      · subst hv
        have HF := hide (show decide ((0 : Int) ≤ (j : Int)) = decide (v ∈ zs) by
          have := List.mem_of_getElem? HXX.out; simp [this])
        go_wp2_with fail
        go_ret
        exact ⟨_, rfl, rfl, HF⟩
      · have e0 : (v == x) = false := by simpa using hv
        have HN := hide (mem_snoc HXX.out HA.out hv)
        clear hv
        go_wp2_with fail
        go_round
        case rel => exact ⟨j + 1, by omega, by go_num, HN⟩
        case measure => simp [intOf]; omega
    · have HF := hide (show decide ((0 : Int) ≤ -1) = decide (v ∈ zs) by
        have h1 := HA.out
        rw [List.take_of_length_le (by rw [hl.out]; omega)] at h1
        simp [h1])
      go_wp2_with fail
      go_ret
      exact ⟨_, rfl, rfl, HF⟩
theorem containsI (A : Option Addr) (n c B : Nat) (v : Int) (zs : List Int) (w : World) (hI : Ints .i64 w B A n zs) (hn : n ≤ 1099511627776) :
    Calls Try.prog 109 #[.slice A n c, .int .i64 v] w fun e w' => e = .returned (.bool (decide (v ∈ zs))) ∧ w = w' := by
  go_enter Try.func109, Try.ntmps109
  go_wp2_with fail
  refine (indexI A n c B v zs _ hI hn).mono ?_
  rintro e w1 ⟨r, rfl, rfl, hr⟩
  have HR := hide hr.symm
  clear hr
  go_wp2_with fail
  go_ret
  exact ⟨ret_bool HR, rfl⟩

def TwRel (n : Nat) (zs : List Int) (i : Value) : Prop := ∃ j : Nat, j ≤ n ∧ i = .int .i64 j ∧ Hid ((zs.take j).Nodup)
theorem nodup_snoc {x : Int} {zs : List Int} {j : Nat} (hx : zs[j]? = some x) (h : (zs.take j).Nodup) (hne : x ∉ zs.take j) : (zs.take (j + 1)).Nodup := by
  rw [take_snocI hx, List.nodup_append]
  refine ⟨h, by simp, fun a ha b hb => ?_⟩
  obtain rfl : b = x := by simpa using hb
  exact fun e => hne (e ▸ ha)
theorem twice_of {x : Int} {zs : List Int} {j : Nat} (hx : zs[j]? = some x) (hm : x ∈ zs.take j) : twB zs = true := by
  rw [twB, decide_eq_true_eq]
  intro h
  have h1 : (zs.take (j + 1)).Nodup := h.sublist (List.take_sublist _ _)
  rw [take_snocI hx, List.nodup_append] at h1
  exact h1.2.2 x hm x (by simp) rfl

set_option maxHeartbeats 1000000 in
theorem implTwice (A : Option Addr) (n c B : Nat) (zs : List Int) (w : World) (hI : Ints .i64 w B A n zs) (hn : n ≤ 1099511627776) (hcap : n ≤ c) :
    Calls Try.prog 81 #[.slice A n c] w fun e w' => e = .returned (.bool (twB zs)) ∧ w = w' := by
  have HI := hide hI
  have hl := hide hI.len
  clear hI
  go_enter Try.func81, Try.ntmps81
  go_wp2_with fail
  go_loop [7] (fun i => TwRel n zs i) (fun i => n - (intOf i).toNat)
  case atStart => exact ⟨0, by omega, rfl, by simp [Hid]⟩
  case round =>
    obtain ⟨j, hj, rfl, HA⟩ := hrel
    by_cases hlt : j < n
    · obtain ⟨b, off, x, rfl, hb, hx, hc⟩ := HI.out.at_ hlt
      have HXX := hide hx
      have HS := hide (show Ints .i64 w B (some ⟨b, off, none⟩) j (zs.take j) by
        refine ⟨by rw [List.length_take, hl.out]; omega, fun hp => ?_⟩
        obtain ⟨b', off', h1, hb', hcell⟩ := HI.out.2 (by omega)
        simp only [Option.some.injEq, Addr.mk.injEq, and_true] at h1
        obtain ⟨rfl, rfl⟩ := h1
        refine ⟨b, off, rfl, hb', fun i y hy => hcell i y ?_⟩
        rw [List.getElem?_take] at hy
        split at hy
        · exact hy
        · cases hy)
      clear hx
      by_cases hm : x ∈ zs.take j
      · have HF := hide (twice_of HXX.out hm)
        have e0 : decide (x ∈ zs.take j) = true := by simpa using hm
        go_wp2_with fail
        refine (containsI _ j c B x (zs.take j) _ HS.out (by omega)).mono ?_
        rw [e0]
        clear hm e0
        rintro e w1 ⟨rfl, rfl⟩
        go_wp2_with fail
        go_ret
        exact ⟨ret_bool HF, rfl⟩
      · have e0 : decide (x ∈ zs.take j) = false := by simpa using hm
        have HN := hide (nodup_snoc HXX.out HA.out hm)
        go_wp2_with fail
        refine (containsI _ j c B x (zs.take j) _ HS.out (by omega)).mono ?_
        rw [e0]
        clear hm e0
        rintro e w1 ⟨rfl, rfl⟩
        go_wp2_with fail
        go_round
        case rel => exact ⟨j + 1, by omega, by go_num, HN⟩
        case measure => simp [intOf]; omega
    · have HF := hide (show twB zs = false by
        have h1 := HA.out
        rw [List.take_of_length_le (by rw [hl.out]; omega)] at h1
        simp [twB, h1])
      go_wp2_with fail
      go_ret
      exact ⟨ret_bool HF, rfl⟩
end Go.Proofs.Ythafkohopkgckaa

namespace Go.Proofs.Ythafkohopkgckaa
open Go.RowKit
set_option linter.unusedSimpArgs false
set_option linter.unusedVariables false

section
variable {R : Fld} {p k g : Int}
theorem own_one (w : World) (e : TypeId) (k : IntKind) (y : Int) : Own (w.alloc (.cells #[.int k y] e)) w.heap.size e k (.slice (some ⟨w.heap.size, 0, none⟩) 1 1) [y] :=
  Own.intro (World.ownsRow_lit w #[.int k y] 1 (by simp) (by simp [maxLen]) (by simp)) rfl rfl
def FtRel (w : World) (p k g : Int) (m : Nat) (xs ys : List (El R)) (u v i : Value) (wr : World) : Prop :=
  ∃ (j : Nat) (A A' : Option Addr) (n c n' c' : Nat) (fit rooted : List (El R)), j ≤ m ∧ i = .int .i64 j ∧ u = .slice A n c ∧ v = .slice A' n' c' ∧
    Own wr (w.heap.size + 1) 2 .i64 (.slice A n c) (iv fit) ∧ Own wr (w.heap.size + 1) 2 .i64 (.slice A' n' c') (iv rooted) ∧ Hid (Fitted xs ys j fit rooted) ∧ n ≤ 100 ∧ n' ≤ 100 ∧ Box w wr 25 p k g

set_option maxRecDepth 100000 in
set_option maxHeartbeats 8000000 in
theorem implFitted (h : FldIs R p k g) (xs ys : List (El R)) (ha : Apart xs) (A A' : Option Addr) (m c c' B : Nat) (w : World) (hI : Ints .i64 w B A m (iv xs)) (hJ : Ints .i64 w B A' m (iv ys)) (hB : B ≤ w.heap.size) (hm : m ≤ 64) :
    Calls Try.prog 82 #[.agg #[.int .i64 p, .int .i64 k, .int .i64 g], .slice A m c, .slice A' m c'] w fun e w' => ∃ fit rooted : List (El R), NewE fit w e w' ∧ Fitted xs ys xs.length fit rooted := by
  have HX := hide (Box.start w 25 p k g)
  have hxm : xs.length = m := by rw [← iv_len]; exact hI.len
  have hym : ys.length = m := by rw [← iv_len]; exact hJ.len
  have HI := hide hI
  have HJ := hide hJ
  have HA := hide ha
  have HXM := hide hxm
  have HYM := hide hym
  clear hI hJ ha hxm hym
  go_enter Try.func82, Try.ntmps82
  go_wp2_with fail
  have hl1 := own_one (w.alloc (.cells #[.int .i64 p, .int .i64 k, .int .i64 g] 25)) 2 .i64 1
  rw [alloc_size] at hl1
  have HL1 := hide hl1
  have HXs := hide (HX.out.alloc (.cells #[.int .i64 1] 2))
  clear hl1
  go_loopw [7, 8, 16] (fun u v i wr => FtRel w p k g m xs ys u v i wr) (fun _ _ i _ => m - (intOf i).toNat)
  case atStart => exact ⟨0, none, _, 0, 0, 1, 1, [], [1], by omega, rfl, rfl, rfl, World.ownsRow_nil _ _ _ _, HL1.out, fitted_0 xs ys, by omega, by omega, HXs.out⟩
  case round =>
    clear HX HL1 HXs
    obtain ⟨j, Af, Ar, nf, cf_, nr, cr, fit, rooted, hj, rfl, rfl, rfl, HF, HR, HFT, hnf, hnr, HX⟩ := hrel
    have HX := hide HX
    have HF := hide HF
    have HR := hide HR
    by_cases hlt : j < m
    · obtain ⟨b, off, x, rfl, hb, hx, hc⟩ := (HI.out.below (HX.out.2.mono hB)).at_ hlt
      obtain ⟨b', off', x', rfl, hb', hx', hc'⟩ := (HJ.out.below (HX.out.2.mono hB)).at_ hlt
      rw [iv_at (by rw [HXM.out]; omega)] at hx
      rw [iv_at (by rw [HYM.out]; omega)] at hx'
      simp only [Option.some.injEq] at hx hx'
      subst hx
      subst hx'
      obtain ⟨X, hX⟩ : ∃ X, X = cf xs j := ⟨_, rfl⟩
      obtain ⟨Y, hY⟩ : ∃ Y, Y = cf ys j := ⟨_, rfl⟩
      rw [← hX] at hc
      rw [← hY] at hc'
      have HST := hide (fitted_step HA.out (by rw [HXM.out]; exact hlt) HFT.out)
      obtain ⟨K, hK⟩ : ∃ K, K = (Y + -(ev X fit)) * (ev X rooted).inv := ⟨_, rfl⟩
      have hKK : fitK xs ys j fit rooted = K := by rw [fitK, ← hX, ← hY, hK]
      rw [hKK, ← hX] at HST
      obtain ⟨sp, hsp⟩ : ∃ sp, sp = scaP K rooted := ⟨_, rfl⟩
      rw [← hsp] at HST
      have hspl : sp.length ≤ nr := by rw [hsp]; have := sca_le K rooted; have h2 := HR.out.len; rw [iv_len] at h2; omega
      have HKK := hide hK
      have HCY := hide hc'
      have hbl' : b' < wr.heap.size := Nat.lt_of_lt_of_le hb' (Nat.le_trans hB (Nat.le_of_lt HX.out.lt))
      have HFL := hide (show fit.length = nf by have := HF.out.len; rw [iv_len] at this; omega)
      have HRL := hide (show rooted.length = nr by have := HR.out.len; rw [iv_len] at this; omega)
      have HSE := hide (show trim (tab nr fun i => K * cf rooted i) = sp by rw [hsp, scaP, HRL.out])
      clear hX hY hK hKK hb hb' hc' hsp
      go_wp2_with fail
      go_region_held3 (fun w' => w'.cell? ⟨w.heap.size, 0, none⟩ = some (.int .i64 p) ∧ w'.cell? ⟨w.heap.size, 1, none⟩ = some (.int .i64 k) ∧ w'.cell? ⟨w.heap.size, 2, none⟩ = some (.int .i64 g) ∧ w'.cell? ⟨b', off' + j, none⟩ = some (.int .i64 (Y.val : Int)))
        (first
          | exact ⟨HX.out.drew.cells.1, HX.out.drew.cells.2.1, HX.out.drew.cells.2.2, HCY.out⟩
          | exact ⟨HX2.out.cells.1, HX2.out.cells.2.1, HX2.out.cells.2.2, HC2.out⟩
          | exact ⟨HX3.out.cells.1, HX3.out.cells.2.1, HX3.out.cells.2.2, HC3.out⟩
          | exact ⟨HX4.out.cells.1, HX4.out.cells.2.1, HX4.out.cells.2.2, HC4.out⟩)
        (first
          | (go_at_call 73; refine (implValueAt h X fit Af nf cf_ wr.heap.size _ (HF.out.drew.intsE) (Nat.le_refl _) (by omega)).mono ?_; rintro e w2 ⟨rfl, hb2⟩; have HX2 := hide (HX.out.drew.next hb2); have HF2 := hide (HF.out.drew.below hb2 (Nat.le_refl _)); have HR2 := hide (HR.out.drew.below hb2 (Nat.le_refl _)); have HC2 := hide ((hb2.cell (p := ⟨b', off' + j, none⟩) hbl').trans HCY.out); have hbl2 := Nat.lt_of_lt_of_le hbl' hb2.size; clear hb2)
          | (go_at_call 103; refine (implNegE h (ev X fit) _).mono ?_; rintro e w3 ⟨rfl, hb3⟩; have HX3 := hide (HX2.out.next hb3); have HF3 := hide (HF2.out.below hb3 (Nat.le_refl _)); have HR3 := hide (HR2.out.below hb3 (Nat.le_refl _)); have HC3 := hide ((hb3.cell (p := ⟨b', off' + j, none⟩) hbl2).trans HC2.out); have hbl3 := Nat.lt_of_lt_of_le hbl2 hb3.size; clear hb3)
          | (go_at_call 59; refine (implSumE h Y (-(ev X fit)) _).mono ?_; rintro e w4 ⟨rfl, hb4⟩; have HX4 := hide (HX3.out.next hb4); have HF4 := hide (HF3.out.below hb4 (Nat.le_refl _)); have HR4 := hide (HR3.out.below hb4 (Nat.le_refl _)); have HC4 := hide ((hb4.cell (p := ⟨b', off' + j, none⟩) hbl3).trans HC3.out); clear hb4))
      obtain ⟨M, hM⟩ : ∃ M, M = Y + -(ev X fit) := ⟨_, rfl⟩
      rw [← hM] at HKK ⊢
      clear hM HX HF HR HX2 HF2 HR2 HX3 HF3 HR3 HCY HC2 HC3 HC4
      go_wp2_with fail
      go_region_held3 (fun w' => w'.cell? ⟨w.heap.size, 0, none⟩ = some (.int .i64 p) ∧ w'.cell? ⟨w.heap.size, 1, none⟩ = some (.int .i64 k) ∧ w'.cell? ⟨w.heap.size, 2, none⟩ = some (.int .i64 g))
        (first
          | exact ⟨HX4.out.drew.cells.1, HX4.out.drew.cells.2.1, HX4.out.drew.cells.2.2⟩
          | exact ⟨HX5.out.cells.1, HX5.out.cells.2.1, HX5.out.cells.2.2⟩
          | exact ⟨HX6.out.cells.1, HX6.out.cells.2.1, HX6.out.cells.2.2⟩
          | exact ⟨HX7.out.cells.1, HX7.out.cells.2.1, HX7.out.cells.2.2⟩)
        (first
          | (go_at_call 73; refine (implValueAt h X rooted Ar nr cr w4.heap.size _ (HR4.out.drew.intsE) (Nat.le_refl _) (by omega)).mono ?_; rintro e w5 ⟨rfl, hb5⟩; have HX5 := hide (HX4.out.drew.next hb5); have HF5 := hide (HF4.out.drew.below hb5 (Nat.le_refl _)); have HR5 := hide (HR4.out.drew.below hb5 (Nat.le_refl _)); clear hb5)
          | (go_at_call 101; refine (implInvE h (ev X rooted) _).mono ?_; rintro e w6 ⟨rfl, hb6⟩; have HX6 := hide (HX5.out.next hb6); have HF6 := hide (HF5.out.below hb6 (Nat.le_refl _)); have HR6 := hide (HR5.out.below hb6 (Nat.le_refl _)); clear hb6)
          | (go_at_call 64; refine (implProdE h M (ev X rooted).inv _).mono ?_; rw [← HKK.out]; rintro e w7 ⟨rfl, hb7⟩; have HX7 := hide (HX6.out.next hb7); have HF7 := hide (HF6.out.below hb7 (Nat.le_refl _)); have HR7 := hide (HR6.out.below hb7 (Nat.le_refl _)); clear hb7))
      clear HX4 HF4 HR4 HX5 HF5 HR5 HX6 HF6 HR6
      go_wp2_with fail
      go_region_held3 (fun w' => w'.cell? ⟨w.heap.size, 0, none⟩ = some (.int .i64 p) ∧ w'.cell? ⟨w.heap.size, 1, none⟩ = some (.int .i64 k) ∧ w'.cell? ⟨w.heap.size, 2, none⟩ = some (.int .i64 g))
        (first
          | exact ⟨HX7.out.drew.cells.1, HX7.out.drew.cells.2.1, HX7.out.drew.cells.2.2⟩
          | exact ⟨HX8.out.cells.1, HX8.out.cells.2.1, HX8.out.cells.2.2⟩
          | exact ⟨HX8a.out.cells.1, HX8a.out.cells.2.1, HX8a.out.cells.2.2⟩
          | exact ⟨HX9.out.cells.1, HX9.out.cells.2.1, HX9.out.cells.2.2⟩)
        (first
          | (go_at_call 110; refine (implScaled h K rooted Ar nr cr w7.heap.size _ (HR7.out.drew.intsE) (Nat.le_refl _) (by omega)).mono ?_; rw [HSE.out]; rintro e w8 ⟨gS, cS, rfl, hoS, hgS, hb8⟩; have HX8 := hide (HX7.out.drew.next hb8); have HF8 := hide (HF7.out.drew.below hb8 (Nat.le_refl _)); have HR8 := hide (HR7.out.drew.below hb8 (Nat.le_refl _)); have HOS := hide hoS; have HX8a := hide (HX8.out.alloc (.cells #[.slice (some ⟨gS, 0, none⟩) sp.length cS] 70)); have HF8a := hide (HF8.out.alloc (.cells #[.slice (some ⟨gS, 0, none⟩) sp.length cS] 70)); have HR8a := hide (HR8.out.alloc (.cells #[.slice (some ⟨gS, 0, none⟩) sp.length cS] 70)); have HOSa := hide (HOS.out.alloc (.cells #[.slice (some ⟨gS, 0, none⟩) sp.length cS] 70)); clear hoS hb8)
          | (go_at_call 76; refine (implPlus h fit sp Af (some ⟨gS, 0, none⟩) nf cf_ sp.length cS (w8.heap.size + 1) w8.heap.size _ (by have := HF8a.out.intsE; rw [alloc_size] at this; exact this) (by have := HOSa.out.intsE; rw [alloc_size] at this; exact this) (by rw [alloc_size]; exact Nat.lt_succ_self _) (by rw [World.cell?_alloc_at _ _ _ _ rfl]; rfl) (by rw [alloc_size]; exact Nat.le_refl _) (by omega) (by omega)).mono ?_; rintro e w9 ⟨gP, cP, rfl, hoP, hgP, hb9⟩; have HX9 := hide (HX8a.out.next hb9); have HR9 := hide (HR8a.out.below hb9 (Nat.le_refl _)); have HOP := hide (hoP.low (base' := w.heap.size + 1) HX8a.out.lt); clear hoP hb9))
      clear HX7 HF7 HR7 HX8 HF8 HR8 HX8a HF8a HR8a HOS HOSa
      go_wp2_with fail
      go_region_held3 (fun w' => w'.cell? ⟨w.heap.size, 0, none⟩ = some (.int .i64 p) ∧ w'.cell? ⟨w.heap.size, 1, none⟩ = some (.int .i64 k) ∧ w'.cell? ⟨w.heap.size, 2, none⟩ = some (.int .i64 g))
        (first
          | exact ⟨HX9.out.drew.cells.1, HX9.out.drew.cells.2.1, HX9.out.drew.cells.2.2⟩
          | exact ⟨HX10.out.cells.1, HX10.out.cells.2.1, HX10.out.cells.2.2⟩
          | exact ⟨HX10a.out.cells.1, HX10a.out.cells.2.1, HX10a.out.cells.2.2⟩
          | exact ⟨HX11.out.cells.1, HX11.out.cells.2.1, HX11.out.cells.2.2⟩)
        (first
          | (go_at_call 103; refine (implNegE h X _).mono ?_; rintro e w10 ⟨rfl, hb10⟩; have HX10 := hide (HX9.out.drew.next hb10); have HP10 := hide (HOP.out.drew.below hb10 (Nat.le_refl _)); have HR10 := hide (HR9.out.drew.below hb10 (Nat.le_refl _)); have HX10a := hide (HX10.out.alloc (.cells #[.int .i64 ((-X).val : Int), .int .i64 1] 2)); have HP10a := hide (HP10.out.alloc (.cells #[.int .i64 ((-X).val : Int), .int .i64 1] 2)); have HR10a := hide (HR10.out.alloc (.cells #[.int .i64 ((-X).val : Int), .int .i64 1] 2)); have HT10 := hide (ints_two w10 2 .i64 ((-X).val : Int) 1); clear hb10)
          | (go_at_call 69; refine (implTimes h rooted (lin X) Ar (some ⟨w10.heap.size, 0, none⟩) nr cr 2 2 (w10.heap.size + 1) _ (by have := HR10a.out.intsE; rw [alloc_size] at this; exact this) HT10.out (by rw [alloc_size]; exact Nat.le_refl _) (by omega) (by omega)).mono ?_; rintro e w11 ⟨gT, cT, rfl, hoT, hgT, hb11⟩; have HX11 := hide (HX10a.out.next hb11); have HP11 := hide (HP10a.out.below hb11 (Nat.le_refl _)); have HOT := hide (hoT.low (base' := w.heap.size + 1) HX10a.out.lt); clear hoT hb11))
      have hn1 : (addP fit sp).length ≤ 100 := by have := HST.out.lenF; omega
      have hn2 : (mulP rooted (lin X)).length ≤ 100 := by have := HST.out.lenR; omega
      clear HX9 HX10 HX10a HP10 HP10a HR9 HR10 HR10a HOP HT10
      go_wp2_with fail
      go_roundw
      case rel => exact ⟨j + 1, _, _, _, _, _, _, _, _, by omega, by go_num, rfl, rfl, HP11.out, HOT.out, HST, hn1, hn2, HX11.out⟩
      case measure => simp [intOf]; omega
    · obtain rfl : j = m := by omega
      have HE := hide (newE_of (w := w) HF.out HX.out.2 (Nat.le_succ _))
      have HFE := hide (show Fitted xs ys xs.length fit rooted by rw [HXM.out]; exact HFT.out)
      go_wp2_with fail
      go_ret
      exact ⟨fit, rooted, HE, HFE⟩
end
end Go.Proofs.Ythafkohopkgckaa
