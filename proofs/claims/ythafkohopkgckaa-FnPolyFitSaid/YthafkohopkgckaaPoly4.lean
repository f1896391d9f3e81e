/-
  The contracts of the program's multiples, products and sums of polynomials.
  Condition: the field is valid, and lists are shorter than 2^39.
-/
import Derived.Test.YthafkohopkgckaaPoly3
namespace Go.Proofs.Ythafkohopkgckaa
open Go.RowKit
set_option linter.unusedSimpArgs false

/-- copy into a list that was just made of zeros. -/
theorem wpList_copyZ {P : Program} {w : World} {ops : Array Oper} {rest : List Oper} {o : Oper} {a : Act} {Q : Exit → Act → World → Prop} (hgd : o.guard = none) (d s : Operand) (t : TypeId)
    (ho : o.op = .call { callee := .builtin .copy, args := #[d, s], argTypes := #[t, t] }) {e : TypeId} {k : IntKind} {bytes : Nat} (E : IsElem P t e k bytes)
    (base gB N c : Nat) (ys : List Int) (hd : a.eval d = .slice (some ⟨gB, 0, none⟩) N c) (hO : Own w base e k (.slice (some ⟨gB, 0, none⟩) N c) ys)
    (B : Nat) (A : Option Addr) (m c' : Nat) (zs : List Int) (hs : a.eval s = .slice A m c') (hI : Ints k w B A m zs) (hm : m ≤ N)
    (h : ∀ w', Own w' base e k (.slice (some ⟨gB, 0, none⟩) N c) (zs ++ ys.drop m) → w.grownBy w' (some gB) → wpList P ops Q rest (a.put o.dst (goInt m)) w') : wpList P ops Q (o :: rest) a w := by
  have hsz : (P.info? e).map (·.size) = some 1 := by
    obtain ⟨i, hi, _, h1, _⟩ := info_parts E.info
    rw [hi]; simp [h1]
  have hl := hI.len
  have hyl := hO.len
  rcases Nat.eq_zero_or_pos m with h0 | h0
  · subst h0
    refine wpList_copy_nothing hgd d s t t ho e E.under hsz _ _ N c 0 c' hd hs (by simp) ?_
    have := h w (by obtain rfl := List.eq_nil_of_length_eq_zero hl; simpa using hO) (World.grownBy.refl w _)
    exact this
  · obtain ⟨b, off, rfl, hb, hc⟩ := hI.2 h0
    rcases hO.2 with ⟨hv, _⟩ | ⟨g', cap, cur, hv, hbs, hg, hnc, hmx, hcs, ht⟩
    · cases hv
    · simp only [Value.slice.injEq, Option.some.injEq, Addr.mk.injEq, and_true] at hv
      obtain ⟨⟨rfl, _⟩, _, rfl⟩ := hv
      rw [Nat.mul_one] at hcs ht
      refine wpList_copy_own hgd d s t t ho e E.under hsz gB 0 N c ⟨b, off, none⟩ m c' hd hs cur e hg (zs.map (Value.int k)) (by rw [List.length_map, hl]; exact (Nat.min_eq_left hm).symm) (fun j v hv => by
          rw [List.getElem?_map] at hv
          obtain ⟨x, hx, rfl⟩ := Option.map_eq_some_iff.1 hv
          rw [addr_add]; exact hc j x hx) (by rw [List.length_map, hl]; omega) (ints_oneCell k zs) ?_
      have hgo : (goInt ((zs.map (Value.int k)).length : Nat)) = goInt m := by rw [List.length_map, hl]
      rw [hgo]
      refine h _ ?_ ⟨rfl, rfl, rfl, by simp [World.setRow], fun i hi hne => setRow_other w gB i _ (fun e => hne (by rw [e]))⟩
      refine Own.intro (n := N) (zs := zs ++ ys.drop m) ⟨?_, .inr ⟨gB, c, _, rfl, hbs, setRow_heap w gB cur _ e (0, 0) hg, by omega, hmx, ?_, rfl⟩⟩ (by rw [List.length_append, List.length_drop]; omega) ?_
      · simp; omega
      · simp; omega
      · rw [Nat.mul_one, List.take_zero, List.nil_append, Nat.zero_add, List.length_map, hl, List.take_append, List.length_map, hl, List.take_of_length_le (by rw [List.length_map]; omega), List.map_append]
        congr 1
        rw [← List.drop_take, hyl, ht, List.map_drop]

section
variable {R : Fld} {p k g : Int}
theorem iv_zeros' (n : Nat) : Hid (List.replicate n (0 : Int) = iv (tab n fun _ => (0 : El R))) := iv_zeros n
/-- What a function leaves that returns a new list of elements. -/
def NewP (zs : List (El R)) (w : World) (x : Ending) (w' : World) : Prop :=
  ∃ gB c, x = .returned (.slice (some ⟨gB, 0, none⟩) zs.length c) ∧ Own w' w.heap.size 2 .i64 (.slice (some ⟨gB, 0, none⟩) zs.length c) (iv zs) ∧ w.heap.size < gB ∧ Below w.heap.size w w'
theorem grown_Below {w w1 w2 : World} {b : Nat} (h : Below w.heap.size w w1) (hg : w1.grownBy w2 (some b)) (hb : w.heap.size ≤ b) : Below w.heap.size w w2 :=
  h.grown hg h.size (fun r hr => by simp only [Option.some.injEq] at hr; omega)

set_option maxHeartbeats 1000000 in
theorem implScaled (h : FldIs R p k g) (a : El R) (ps : List (El R)) (A : Option Addr) (n c B : Nat) (w : World) (hI : Ints .i64 w B A n (iv ps)) (hB : B ≤ w.heap.size) (hn : n ≤ 549755813888) :
    Calls Try.prog 110 #[.slice A n c, .agg #[.int .i64 p, .int .i64 k, .int .i64 g], .int .i64 a.val] w (NewP (trim (tab n fun i => a * cf ps i)) w) := by
  have HX := hide (Box.start w 25 p k g)
  have HI := hide hI
  clear hI
  go_enter Try.func110, Try.ntmps110
  go_wp2_with (refine wpList_mkN _ rfl (.tmp 9) (.tmp 9) 70 rfl elemP .i64 .i64 _ _ n rfl rfl rfl rfl (by omega) fun w1 h1 h2 => ?_; have HX1 := hide (HX.out.next h2); rw [alloc_size, iv_zeros (R := R)] at h1; have HO1 := hide h1; obtain ⟨c0, c1, c2⟩ := HX1.out.cells; clear h1 h2)
  have HI1 := hide (HI.out.below (HX1.out.2.mono hB))
  refine (implAddMul h a 0 n n (w.heap.size + 1) _ (fun _ => 0) ps A n c B _ HO1.out HI1.out (by omega) (by omega) (by omega) (by omega)).mono ?_
  rintro e w2 ⟨rfl, hO2, hg⟩
  have HO2 := hide hO2
  have HX2 := hide (HX1.out.grown hg (by omega))
  clear hO2 hg c0 c1 c2
  go_wp2_with fail
  refine (implTrimmed _ (w.heap.size + 1) n n _ _ HO2.out (by omega)).mono ?_
  rintro e w3 ⟨rfl, hO3, rfl⟩
  have e1 : (tab n fun i => (0 : El R) + up 0 a (cf ps) i) = tab n fun i => a * cf ps i := tab_congr fun i _ => by
    rw [e0a]; unfold up; rw [if_pos (Nat.zero_le _)]; rfl
  rw [e1] at hO3 ⊢
  have HO3 := hide hO3
  clear hO3
  go_wp2_with fail
  go_ret
  exact ⟨w.heap.size + 1, n, rfl, HO3.out.low (by omega), by omega, HX2.out.2⟩

/-- The product of what has been taken of the first list. -/
def TmRel (w : World) (p k g : Int) (N n : Nat) (ps qs : List (El R)) (i : Value) (wr : World) : Prop :=
  ∃ j : Nat, j ≤ n ∧ i = .int .i64 j ∧ Own wr (w.heap.size + 1) 2 .i64 (.slice (some ⟨w.heap.size + 1, 0, none⟩) N N) (iv (tab N (mulN (cf ps) (cf qs) j))) ∧ Box w wr 25 p k g

set_option maxHeartbeats 1000000 in
theorem implTimes (h : FldIs R p k g) (ps qs : List (El R)) (A A' : Option Addr) (n c m c' B : Nat) (w : World) (hI : Ints .i64 w B A n (iv ps)) (hJ : Ints .i64 w B A' m (iv qs)) (hB : B ≤ w.heap.size) (hn : n ≤ 549755813888) (hm : m ≤ 549755813888) :
    Calls Try.prog 69 #[.slice A n c, .agg #[.int .i64 p, .int .i64 k, .int .i64 g], .slice A' m c'] w (NewP (mulP ps qs) w) := by
  have HX := hide (Box.start w 25 p k g)
  have hpn : ps.length = n := by rw [← iv_len]; exact hI.len
  have hqm : qs.length = m := by rw [← iv_len]; exact hJ.len
  have HI := hide hI
  have HJ := hide hJ
  clear hI hJ
  obtain ⟨N, hN⟩ : ∃ N, plen ps qs = N := ⟨_, rfl⟩
  have hNb : N ≤ 1099511627776 := by rw [← hN]; unfold plen; split <;> omega
  have hN1 : m = 0 ∨ n = 0 ∨ N = n + m - 1 := by rw [← hN]; unfold plen; split <;> omega
  have HN := hide hN
  clear hN
  go_enter Try.func69, Try.ntmps69
  go_wp2_with fail
  refine (implPlen ps qs A A' n m c c' _ hpn hqm (by omega) (by omega)).mono ?_
  rw [HN.out]
  rintro e w0 ⟨rfl, rfl⟩
  go_wp2_with (refine wpList_mkN _ rfl (.tmp 12) (.tmp 12) 70 rfl elemP .i64 .i64 _ _ N rfl rfl rfl rfl (by omega) fun w1 h1 h2 => ?_; have HX1 := hide (HX.out.next h2); rw [alloc_size, iv_zeros (R := R)] at h1; have HO1 := hide h1; clear h1 h2)
  go_loopw [16] (fun i wr => TmRel w p k g N n ps qs i wr) (fun i _ => n - (intOf i).toNat)
  case atStart => exact ⟨0, by omega, rfl, HO1.out, HX1.out⟩
  case round =>
    clear HX1 HO1
    obtain ⟨j, hj, rfl, HO, HX⟩ := hrel
    have HX := hide HX
    have HO := hide HO
    by_cases hlt : j < n
    · obtain ⟨b, off, x, rfl, hb, hx, hc⟩ := (HI.out.below (HX.out.2.mono hB)).at_ hlt
      rw [iv_at (by omega)] at hx
      simp only [Option.some.injEq] at hx
      subst hx
      obtain ⟨y, hy⟩ : ∃ y, y = cf ps j := ⟨_, rfl⟩
      rw [← hy] at hc
      have HY := hide hy
      clear hy
      have HJ1 := hide (HJ.out.below (HX.out.2.mono hB))
      obtain ⟨c0, c1, c2⟩ := HX.out.cells
      go_wp2_with fail
      refine (implAddMul h y j N N (w.heap.size + 1) _ _ qs A' m c' B _ HO.out HJ1.out (by omega) (by omega) (by omega) (by omega)).mono ?_
      rintro e w2 ⟨rfl, hO2, hg⟩
      have HO2 := hide hO2
      have HX2 := hide (HX.out.grown hg (by omega))
      clear hO2 hg c0 c1 c2
      go_wp2_with fail
      go_roundw
      case rel => exact ⟨j + 1, by omega, by go_num, by have := HO2.out; rw [HY.out] at this; exact this, HX2⟩
      case measure => simp [intOf]; omega
    · obtain rfl : j = n := by omega
      have HP := hide (show tab N (mulN (cf ps) (cf qs) j) = mulP ps qs by rw [mulP, HN.out, hpn])
      have HL := hide (show (mulP ps qs).length = N by rw [mulP, tab_len, HN.out])
      go_wp2_with fail
      go_ret
      exact ⟨w.heap.size + 1, N, by rw [HL.out]; rfl, by rw [HL.out, ← HP.out]; exact HO.out.low (by omega), by omega, HX.out.2⟩
end
end Go.Proofs.Ythafkohopkgckaa
