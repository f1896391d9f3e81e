/-
  The program's read: what a list is read as.
  Condition: the code is valid, the list has its length and the elements -1, 0, 1.
-/
import Derived.Test.YtkaconpbmppekaaWdMap
namespace Go.Proofs.Ytkaconpbmppekaa
open Go Go.RowKit
set_option linter.unusedSimpArgs false
set_option linter.unusedVariables false

theorem leastF_le {f : Nat → Nat} {l : Nat} : ∀ {k v : Nat}, v < k → leastF f l k ≤ f v
  | 0, v, h => by omega
  | k + 1, v, h => by
    show min (leastF f l k) (f k) ≤ f v
    by_cases hv : v = k
    · subst hv; exact Nat.min_le_right _ _
    · have := leastF_le (f := f) (l := l) (k := k) (v := v) (by omega)
      omega
theorem leastF_len {f : Nat → Nat} {l : Nat} : ∀ k, leastF f l k ≤ l
  | 0 => Nat.le_refl _
  | k + 1 => Nat.le_trans (Nat.min_le_left _ _) (leastF_len k)
/-- The keys of the map: the numbers below k with the distance m. -/
def KeysIs (D : DataW Unit) (f : Nat → Nat) (k m : Nat) : Prop := Maps.IsMap D ∧ ∀ x : Int, Maps.has D (.int .i64 x) = true ↔ ∃ v : Nat, v < k ∧ x = (v : Int) ∧ f v = m
theorem keys_start (f : Nat → Nat) (m : Nat) : KeysIs (.map []) f 0 m := ⟨⟨[], rfl⟩, fun x => ⟨fun h => (by cases h), fun ⟨v, h, _⟩ => absurd h (Nat.not_lt_zero v)⟩⟩
theorem keys_clear {f : Nat → Nat} {k m : Nat} (h : ∀ v, v < k → f v ≠ m) : KeysIs (.map []) f k m := ⟨⟨[], rfl⟩, fun x => ⟨fun h => (by cases h), fun ⟨v, hv, _, e⟩ => absurd e (h v hv)⟩⟩
theorem isKey_int (k : Nat) : WideAt.IsKeyLit (.int .i64 (k : Int)) := by first | trivial | exact ⟨⟩ | simp [WideAt.IsKeyLit]
theorem keys_put {D : DataW Unit} {f : Nat → Nat} {k m : Nat} (h : KeysIs D f k m) (hk : f k = m) (d : DataW Unit) : KeysIs (D.put (.int .i64 (k : Int)) d) f (k + 1) m := by
  refine ⟨h.1.put _ _, fun x => ?_⟩
  by_cases hx : x = (k : Int)
  · subst hx
    rw [Maps.has_put_same h.1 (isKey_int k)]
    exact ⟨fun _ => ⟨k, Nat.lt_succ_self k, rfl, hk⟩, fun _ => rfl⟩
  · rw [Maps.has_put_other (by simpa using hx), h.2 x]
    exact ⟨fun ⟨v, h1, h2, h3⟩ => ⟨v, by omega, h2, h3⟩, fun ⟨v, h1, h2, h3⟩ => ⟨v, by
      have : v ≠ k := fun e => hx (by rw [h2, e])
      omega, h2, h3⟩⟩
theorem keys_skip {D : DataW Unit} {f : Nat → Nat} {k m : Nat} (h : KeysIs D f k m) (hk : f k ≠ m) : KeysIs D f (k + 1) m := by
  refine ⟨h.1, fun x => ?_⟩
  rw [h.2 x]
  exact ⟨fun ⟨v, h1, h2, h3⟩ => ⟨v, by omega, h2, h3⟩, fun ⟨v, h1, h2, h3⟩ => ⟨v, by
    have : v ≠ k := fun e => hk (by rw [← e]; exact h3)
    omega, h2, h3⟩⟩
/-- The least key is the nearest number. -/
theorem keys_best {D : DataW Unit} {f : Nat → Nat} {l N : Nat} (hf : ∀ v, f v ≤ l) (hN : 0 < N) (h : KeysIs D f N (leastF f l N)) {ss : List Int} (hm : ∀ x, x ∈ ss ↔ Maps.has D (.int .i64 x) = true) :
    0 < ss.length ∧ ∀ m : Int, m ∈ ss → (∀ z ∈ ss, m ≤ z) → m = ((bestF f l N).1 : Nat) := by
  obtain ⟨b1, b2, b3, b4⟩ := best_spec hf N hN
  have hin : ((bestF f l N).1 : Int) ∈ ss := by
    rw [hm, h.2]
    exact ⟨_, b1, rfl, by rw [b2, least_is hf N hN]⟩
  refine ⟨List.length_pos_of_mem hin, fun m h1 h2 => ?_⟩
  have h3 := h2 _ hin
  rw [hm, h.2] at h1
  obtain ⟨v, hv, rfl, he⟩ := h1
  rw [least_is hf N hN] at he
  by_cases hlt : v < (bestF f l N).1
  · have := b4 v hlt; omega
  · omega
theorem own_size {H : Type} {P : Program} {k : TypeId} {R : Value → Option (DataW H × List MemPlace)} {w : World} {b n : Nat} {D : DataW H} (h : w.ownsMap P k R b n D) : Maps.size D ≤ n ∧ (intKeys D).length ≤ n := by
  obtain ⟨es, clock, hb, F, hs, rfl⟩ := h
  have h1 : ((es.toList.map (WideElems.rg P k R)).foldr DataW.insert []).length ≤ n := by rw [length_sorted]; simpa using hs
  exact ⟨h1, by show (List.map _ _).length ≤ n; rw [List.length_map]; exact h1⟩
/-- What read leaves. -/
def ReadV (a b c : Nat) : Value := .agg #[.int .i64 a, .int .i64 b, .int .i64 c]

/-- What read holds while it goes through the numbers. -/
structure Rd (w : World) (D L P k : Nat) (E : DataW Unit) (W : World) : Prop where
  box : Box w W 25 D L P
  res : W.heap[w.heap.size + 1]? = some (.cells #[.int .i64 0, .int .i64 0, .int .i64 0] 77 (0, 0))
  own : W.ownsMap Try.prog 2 (plainElem Try.prog 4) (w.heap.size + 1 + 1) k E
theorem Rd.next {w W W' : World} {D L P k : Nat} {E : DataW Unit} (h : Rd w D L P k E W) (hb : Below W.heap.size W W') : Rd w D L P k E W' := by
  refine ⟨h.box.next hb, ?_, ?_⟩
  · rw [hb.block _ (Array.getElem?_eq_some_iff.1 h.res).1]; exact h.res
  · have hl := h.own.lt
    obtain ⟨es, clock, hq, rest⟩ := h.own
    exact ⟨es, clock, by rw [hb.block _ hl]; exact hq, rest⟩
theorem Rd.drewN {w W : World} {D L P k : Nat} {E : DataW Unit} (h : Rd w D L P k E W) (n : Nat) : Rd w D L P k E (W.drewN n) := ⟨h.box.drewN n, h.res, h.own⟩
theorem Rd.turn {w W W' : World} {D L P k k' : Nat} {E E' : DataW Unit} (h : Rd w D L P k E W) (hg : W.grownBy W' (some (w.heap.size + 1 + 1))) (ho : W'.ownsMap Try.prog 2 (plainElem Try.prog 4) (w.heap.size + 1 + 1) k' E') : Rd w D L P k' E' W' :=
  ⟨h.box.grow' hg (fun b e => by cases e; omega), by rw [hg.block _ (Array.getElem?_eq_some_iff.1 h.res).1 (by intro e; injection e; omega)]; exact h.res, ho⟩
theorem Rd.more {w W : World} {D L P k k' : Nat} {E : DataW Unit} (h : Rd w D L P k E W) (hk : k ≤ k') : Rd w D L P k' E W := ⟨h.box, h.res, h.own.mono hk⟩

set_option maxRecDepth 100000 in
set_option maxHeartbeats 8000000 in
theorem implRead {D L P K : Nat} (h : FcIs D L P K) (A : Option Addr) (c B : Nat) (zs : List Int) (w : World) (hI : Ints .i64 w B A L zs) (hB : B ≤ w.heap.size) (ht : zs.all isTri = true) :
    Calls Try.prog 56 #[.agg #[.int .i64 D, .int .i64 L, .int .i64 P], .slice A L c] w (Gives (ReadV (nearF D L P K zs).1 (nearF D L P K zs).2 (dmgF D L P K zs)) w) := by
  have HX := hide (Box.start w 25 D L P)
  have HXA := hide (HX.out.alloc (.cells #[.int .i64 0, .int .i64 0, .int .i64 0] 77))
  obtain ⟨c0, c1, c2⟩ := HXA.out.cells
  have HF := hide h
  have HI := hide (hI.below (((Below.refl B w).alloc hB (.cells #[.int .i64 D, .int .i64 L, .int .i64 P] 25)).alloc (by rw [alloc_size]; omega) (.cells #[.int .i64 0, .int .i64 0, .int .i64 0] 77)))
  have HT := hide ht
  have hD8 := h.d8
  have hL := h.l24
  have hmm := @run_makeMap Try.prog
  obtain ⟨N, hN⟩ : ∃ N, N = 2 ^ D := ⟨_, rfl⟩
  have HC := hide (fun w' => implCount hD8 L P w')
  rw [← hN] at HC
  have hN1 : 1 ≤ N := by rw [hN]; exact Nat.two_pow_pos D
  have hN2 : N ≤ 256 := by rw [hN]; exact (Nat.pow_le_pow_right (n := 2) (by decide) hD8 : 2 ^ D ≤ 2 ^ 8)
  have HN := hide hN
  obtain ⟨f, hf⟩ : ∃ f, distF D L P K zs = f := ⟨_, rfl⟩
  have HFL := hide (show ∀ v, f v ≤ L from fun v => by rw [← hf]; exact distF_le hI.len v)
  have HFF := hide hf
  have HNR := hide (show nearF D L P K zs = bestF f L N by rw [nearF, hf, hN])
  have hk2 := tri_lt L zs hI.len
  have HLN := hide hI.len
  obtain ⟨nm, hnm⟩ : ∃ a, numK zs = a := ⟨_, rfl⟩
  obtain ⟨kw, hkw⟩ : ∃ a, knwK zs = a := ⟨_, rfl⟩
  have HK := hide (fun (w' : World) (hI' : Ints .i64 w' B A L zs) => implKnown A L c B zs w' hI' hL HT.out)
  rw [hnm, hkw] at HK hk2
  have hp24 := pow24 hL
  have hnm24 : nm < 16777216 := by omega
  have hkw24 : kw < 16777216 := by omega
  have HNM := hide hnm
  have HKW := hide hkw
  have HUN := hide (show popN 24 kw + unkL zs = L by rw [pop_len hk2.2 hL, ← hkw]; exact unk_pop L zs hI.len)
  have hpk := popN_le 24 kw
  have HOK := hide (fun w' => implOnesOf kw hkw24 w')
  obtain ⟨kp, hkp⟩ : ∃ a, popN 24 kw = a := ⟨_, rfl⟩
  rw [hkp] at HOK HUN hpk
  obtain ⟨U, hU⟩ : ∃ U, unkL zs = U := ⟨_, rfl⟩
  have HU := hide hU
  rw [hU] at HUN
  have hkL : (L : Int) - (kp : Int) = (U : Int) := by have := HUN.out; omega
  have hUL : U ≤ 24 := by have := HUN.out; omega
  clear h hI hN hf ht hnm hkw hk2 hp24 hkp hU
  go_enter Try.func56, Try.ntmps56
  go_wp2_with fail
  refine (HK.out _ HI.out).mono ?_
  rintro e w1 ⟨rfl, rfl⟩
  go_wp2_with fail
  have HR0 := hide (show Rd w D L P 0 (.map []) ((((w.alloc (.cells #[.int .i64 D, .int .i64 L, .int .i64 P] 25)).alloc (.cells #[.int .i64 0, .int .i64 0, .int .i64 0] 77)).alloc (.map #[] 0))) from by
    have e1 : ((w.alloc (.cells #[.int .i64 D, .int .i64 L, .int .i64 P] 25)).alloc (.cells #[.int .i64 0, .int .i64 0, .int .i64 0] 77)).heap.size = w.heap.size + 1 + 1 := by simp only [alloc_size]
    refine ⟨HXA.out.alloc _, ?_, ?_⟩
    · have := heap_alloc_new (w.alloc (.cells #[.int .i64 D, .int .i64 L, .int .i64 P] 25)) (.cells #[.int .i64 0, .int .i64 0, .int .i64 0] 77)
      rw [alloc_size] at this
      rw [Below.heap_alloc _ _ _ (by rw [e1]; omega)]
      exact this
    · have := World.ownsMap_made (H := Unit) ((w.alloc (.cells #[.int .i64 D, .int .i64 L, .int .i64 P] 25)).alloc (.cells #[.int .i64 0, .int .i64 0, .int .i64 0] 77)) Try.prog 2 (plainElem Try.prog 4)
      rw [e1] at this
      exact this)
  refine (HC.out _).mono ?_
  rintro e w2 ⟨rfl, hb⟩
  have HR1 := hide (HR0.out.next hb)
  clear hb c0 c1 c2
  go_wp2_with fail
  go_loopw [8, 22] (fun s i wr => ∃ (k m : Nat) (E : DataW Unit), k ≤ N ∧ i = .int .i64 k ∧ s = .int .i64 m ∧ Hid (m = leastF f L k) ∧ Hid (KeysIs E f k m) ∧ Rd w D L P k E wr) (fun _ i _ => N - (Go.RowKit.intOf i).toNat)
  case atStart => exact ⟨0, L, .map [], Nat.zero_le _, rfl, rfl, rfl, keys_start f L, HR1.out⟩
  case round =>
    clear HR0 HR1
    obtain ⟨k, m, E, hk, rfl, rfl, HM, HKY, HR⟩ := hrel
    have HR := hide HR
    obtain ⟨c0, c1, c2⟩ := HR.out.box.cells
    have hmL : m ≤ 24 := by rw [HM.out]; exact Nat.le_trans (leastF_len k) hL
    by_cases hlt : k < N
    · have hv2 : k < 2 ^ D := by rw [← HN.out]; exact hlt
      have HW := hide (fun w' => implWord HF.out k hv2 w')
      have hx1 := HF.out.w24 hv2
      have hx := Nat.lt_of_lt_of_le hx1 (pow24 hL)
      obtain ⟨x, hxx⟩ : ∃ x, wordF D K P k = x := ⟨_, rfl⟩
      have hDF : awayL (bitsOf (x : Nat) L) zs = f k := by rw [← HFF.out, ← hxx]; rfl
      rw [hxx] at HW hx hx1
      have hxo := xorI64 hx hnm24
      obtain ⟨y, hy⟩ : ∃ y, x ^^^ nm = y := ⟨_, rfl⟩
      have hy24 : y < 16777216 := by rw [← hy]; exact (Nat.xor_lt_two_pow (show x < 2 ^ 24 from hx) (show nm < 2 ^ 24 from hnm24))
      have han := andI y kw (by omega) (by omega)
      obtain ⟨z, hz⟩ : ∃ z, y &&& kw = z := ⟨_, rfl⟩
      have hzk : z ≤ kw := by rw [← hz]; exact Nat.and_le_right
      have hz24 : z < 16777216 := by omega
      have hzL : z < 2 ^ L := by
        have := (tri_lt L zs HLN.out).2
        rw [HKW.out] at this
        omega
      rw [hy] at hxo
      rw [hz] at han
      have HQ := hide (show popN 24 z = f k by
        rw [pop_len hzL hL, ← hDF, ← away_pop L zs x HLN.out HT.out, ← hz, ← hy, HNM.out, HKW.out])
      have HO := hide (fun w' => implOnesOf z hz24 w')
      rw [HQ.out] at HO
      have hfk := HFL.out k
      obtain ⟨q, hq⟩ : ∃ q, f k = q := ⟨_, rfl⟩
      rw [hq] at HO hfk
      have HQQ := hide hq
      have hkey : keyOf Try.prog 2 (.int .i64 (k : Int)) = some (.int .i64 (k : Int)) := Maps.keyOf_int_mk Try.underlying2 (by simp [Lit.wf, IntKind.min, IntKind.max, IntKind.signed, IntKind.bits]; omega)
      have HKEY := hide hkey
      clear hv2 hx1 hxx hDF hy hz hzL hq HQ hkey
      rcases (show q < m ∨ q = m ∨ m < q by omega) with hqm | hqm | hqm
      · have HLS := hide (show q = leastF f L (k + 1) by
          show q = min (leastF f L k) (f k)
          rw [← HM.out, HQQ.out]; omega)
        have HKC := hide (show KeysIs (.map []) f k q from keys_clear fun v hv e => by
          have := leastF_le (f := f) (l := L) (k := k) hv
          rw [← HM.out, e] at this
          omega)
        have e0 : (q == q) = true := by simp
        go_wp2_with fail
        refine (HW.out _).mono ?_
        rintro e w3 ⟨rfl, hb⟩
        have HR3 := hide (HR.out.next hb)
        clear hb c0 c1 c2
        obtain ⟨wc, hcl, hoc, hgc⟩ := clear_own HR3.out.own Try.underlying88
        have HRC := hide (HR3.out.turn hgc hoc)
        have HCL := hide hcl
        clear hoc hgc
        go_wp2_with fail
        refine (HO.out _).mono ?_
        rintro e w4 ⟨rfl, rfl⟩
        go_wp2_with (first
          | (at_mapUpdate; refine wpList_mapUpdate_own _ rfl _ _ _ 88 rfl 2 4 (Maps.int_keyed Try.underlying2) Try.underlying88 _ (w.heap.size + 1 + 1) 0 _ rfl HRC.out.own (by unfold maxLen; omega) _ _ _ rfl rfl HKEY.out _ [] (plainElem_bool Try.underlying4 true) ?_; intro w5 hown5 hgrow5)
          | go_in)
        have HR5 := hide (HRC.out.turn hgrow5 hown5)
        have HK5 := hide (keys_put HKC.out HQQ.out (.lit (.bool true)))
        clear hown5 hgrow5 hcl
        go_roundw
        case rel => exact ⟨k + 1, q, _, by omega, by go_num, rfl, HLS.out, HK5, HR5.out.more (by omega)⟩
        case measure => simp [Go.RowKit.intOf]; omega
      · subst hqm
        have HLS := hide (show q = leastF f L (k + 1) by
          show q = min (leastF f L k) (f k)
          rw [← HM.out, HQQ.out]; omega)
        have e0 : (q == q) = true := by simp
        go_wp2_with fail
        refine (HW.out _).mono ?_
        rintro e w3 ⟨rfl, hb⟩
        have HR3 := hide (HR.out.next hb)
        clear hb c0 c1 c2
        go_wp2_with fail
        refine (HO.out _).mono ?_
        rintro e w4 ⟨rfl, rfl⟩
        go_wp2_with (first
          | (at_mapUpdate; refine wpList_mapUpdate_own _ rfl _ _ _ 88 rfl 2 4 (Maps.int_keyed Try.underlying2) Try.underlying88 _ (w.heap.size + 1 + 1) k _ rfl HR3.out.own (by unfold maxLen; omega) _ _ _ rfl rfl HKEY.out _ [] (plainElem_bool Try.underlying4 true) ?_; intro w5 hown5 hgrow5)
          | go_in)
        have HR5 := hide (HR3.out.turn hgrow5 hown5)
        have HK5 := hide (keys_put HKY.out HQQ.out (.lit (.bool true)))
        clear hown5 hgrow5
        go_roundw
        case rel => exact ⟨k + 1, q, _, by omega, by go_num, rfl, HLS.out, HK5, HR5.out⟩
        case measure => simp [Go.RowKit.intOf]; omega
      · have HLS := hide (show m = leastF f L (k + 1) by
          show m = min (leastF f L k) (f k)
          rw [← HM.out, HQQ.out]; omega)
        have HK5 := hide (keys_skip HKY.out (show f k ≠ m by rw [HQQ.out]; omega))
        have e0 : (q == m) = false := by simp; omega
        have e1 : decide (q < m) = false := by simp; omega
        have e2 : decide ((q : Int) < (m : Int)) = false := by simp; omega
        have e3 : ((q : Int) == (m : Int)) = false := by simp; omega
        clear hqm
        go_wp2_with fail
        refine (HW.out _).mono ?_
        rintro e w3 ⟨rfl, hb⟩
        have HR3 := hide (HR.out.next hb)
        clear hb c0 c1 c2
        go_wp2_with fail
        refine (HO.out _).mono ?_
        rintro e w4 ⟨rfl, rfl⟩
        go_wp2_with fail
        go_roundw
        case rel => exact ⟨k + 1, m, _, by omega, by go_num, rfl, HLS.out, HK5, HR3.out.more (by omega)⟩
        case measure => simp [Go.RowKit.intOf]; omega
    · obtain rfl : k = N := by omega
      have hmb : m = (bestF f L k).2 := by rw [HM.out, least_is HFL.out k hN1]
      have HV := hide (show ReadV (nearF D L P K zs).1 (nearF D L P K zs).2 (dmgF D L P K zs) = ReadV (bestF f L k).1 m (2 * m + U) by
        rw [dmgF, HNR.out, HU.out, ← hmb])
      have hb1 := (best_spec HFL.out k hN1).1
      obtain ⟨b1, hbb⟩ : ∃ b1, (bestF f L k).1 = b1 := ⟨_, rfl⟩
      rw [hbb] at HV hb1
      have HBB := hide hbb
      have hwU : IntKind.i64.wrap (U : Int) = (U : Int) := IntWalk.i64_in _ ⟨by omega, by omega⟩
      have hdm : 2 * (m : Int) + (U : Int) = ((2 * m + U : Nat) : Int) := by omega
      obtain ⟨dm, hdd⟩ : ∃ dm, 2 * m + U = dm := ⟨_, rfl⟩
      rw [hdd] at hdm HV
      clear hmb hbb hlt hdd
      go_wp2_with fail
      go_region_held3 (fun w' => w'.cell? ⟨w.heap.size, 0, none⟩ = some (.int .i64 D) ∧ w'.cell? ⟨w.heap.size, 1, none⟩ = some (.int .i64 L) ∧ w'.cell? ⟨w.heap.size, 2, none⟩ = some (.int .i64 P))
        (first
          | exact HR.out.box.drew.cells)
        (first
          | (go_at_call 65; refine (HOK.out _).mono ?_; rintro e w4 ⟨rfl, rfl⟩))
      have HRD := hide (HR.out.drewN 1)
      go_wp2_with fail
      refine (implKeys (some (w.heap.size + 1 + 1)) _).mono ?_
      rintro e w5 ⟨rfl, rfl⟩
      have HR5 := hide (HR.out.drewN 1 |>.next ((Below.refl _ _).alloc (Nat.le_refl _) (.cells #[.map (some (w.heap.size + 1 + 1))] 88)))
      have hsz := own_size HR.out.own
      have hown0 : (wr.drew).ownsMap Try.prog 2 (plainElem (H := Unit) Try.prog 4) (w.heap.size + 1 + 1) k E := HR.out.own
      clear c0 c1 c2
      go_wp2_with fail
      refine (implCollect (w.heap.size + 1 + 1) k E wr.drew hown0 (by omega)).mono ?_
      rintro e w6 ⟨v, ss, rfl, hperm, hown, hb⟩
      have HR6 := hide (HR5.out.next hb)
      obtain ⟨hpos, hmin⟩ := keys_best HFL.out hN1 (by have := HKY.out; rw [HM.out] at this; exact this) (fun x => hperm.mem_iff.trans (mem_keys hown0 Try.underlying2 x))
      have hlen : ss.length ≤ 256 := by rw [hperm.length_eq]; omega
      rw [HBB.out] at hmin
      have HMIN := hide hmin
      obtain ⟨A6, c6, rfl, hc6⟩ := hown.form
      have HI6 := hide (Own.ints hown)
      clear hown hb hperm hmin hown0 hsz
      go_wp2_with fail
      refine (implMinS A6 _ c6 _ ss w6 HI6.out (by omega) hpos).mono ?_
      rintro e w7 ⟨⟨mm, rfl, h1, h2⟩, rfl⟩
      obtain rfl : mm = (b1 : Int) := HMIN.out mm h1 h2
      have hres := HR6.out.res
      obtain ⟨c0, c1, c2⟩ := cells3 hres
      have f0 := frozen_of_row w6 (w.heap.size + 1) 0 _ _ hres
      have f1 := frozen_of_row w6 (w.heap.size + 1) 1 _ _ hres
      have f2 := frozen_of_row w6 (w.heap.size + 1) 2 _ _ hres
      have hzl : w.heap.size + 1 < w6.heap.size := (Array.getElem?_eq_some_iff.1 hres).1
      clear hres h1 h2
      go_wp2_with fail
      refine bodyPost_ret (v := ReadV b1 m dm) (by simp [results, Try.results56, go_sem, c0, c1, c2, hzl, ReadV]) rfl ⟨by rw [HV.out], ?_⟩
      exact (((HR6.out.box.2.setCell (p := ⟨w.heap.size + 1, 0, none⟩) (by simp) _).setCell (p := ⟨w.heap.size + 1, 1, none⟩) (by simp) _).setCell (p := ⟨w.heap.size + 1, 2, none⟩) (by simp) _)
end Go.Proofs.Ytkaconpbmppekaa
