/-
  The contracts of the algorithm of Berlekamp and Massey, of the program.
  Condition: the field is valid; the sequence has at most 64 elements.
-/
import Derived.Test.YtdniocdmncldjaaRStep
import Derived.Test.YtdniocdmncldjaaJQ
namespace Go.Proofs.Ytdniocdmncldjaa
open Go.RowKit
set_option linter.unusedSimpArgs false
set_option linter.unusedVariables false

section
variable {R : Fld} {p k g : Int}
theorem own_lit1R (w : World) (e : TypeId) (k : IntKind) (y : Int) : Own (w.alloc (.cells #[.int k y] e)) w.heap.size e k (.slice (some ⟨w.heap.size, 0, none⟩) 1 1) [y] :=
  Own.intro (World.ownsRow_lit w #[.int k y] 1 (Nat.le_refl _) (by simp [maxLen]) (by simp)) rfl rfl
theorem reg_start (R : Fld) (w : World) (p k g : Int) : Reg w (((((((w.alloc (.cells #[.int .i64 p, .int .i64 k, .int .i64 g] 25)).alloc (.cells #[.slice none 0 0] 26)).alloc (.cells #[.int .i64 0] 3)).alloc (.cells #[.int .i64 1] 2)).alloc
    (.cells #[.slice (some ⟨w.heap.size + 1 + 1 + 1, 0, none⟩) 1 1] 59)).alloc (.cells #[.int .i64 1] 2)).alloc (.cells #[.slice (some ⟨w.heap.size + 1 + 1 + 1 + 1 + 1, 0, none⟩) 1 1] 59)) p k g
    (w.heap.size + 1) (w.heap.size + 1 + 1) (w.heap.size + 1 + 1 + 1 + 1) (w.heap.size + 1 + 1 + 1 + 1 + 1 + 1) [] ([1] : List (El R)) [1] 0 (.slice none 0 0) (.slice (some ⟨w.heap.size + 1 + 1 + 1, 0, none⟩) 1 1) (.slice (some ⟨w.heap.size + 1 + 1 + 1 + 1 + 1, 0, none⟩) 1 1) := by
  have hX := Box.start w 25 p k g
  obtain ⟨w1, e1⟩ : ∃ w1, w.alloc (.cells #[.int .i64 p, .int .i64 k, .int .i64 g] 25) = w1 := ⟨_, rfl⟩
  have s1 : w1.heap.size = w.heap.size + 1 := by rw [← e1, alloc_size]
  rw [e1] at hX ⊢
  have ht := BoxV.new w1 (.slice none 0 0) 26
  obtain ⟨w2, e2⟩ : ∃ w2, w1.alloc (.cells #[.slice none 0 0] 26) = w2 := ⟨_, rfl⟩
  have s2 : w2.heap.size = w.heap.size + 1 + 1 := by rw [← e2, alloc_size, s1]
  have hX := hX.alloc (.cells #[.slice none 0 0] 26)
  rw [s1] at ht
  rw [e2] at ht hX ⊢
  have hl := BoxV.new w2 (.int .i64 0) 3
  obtain ⟨w3, e3⟩ : ∃ w3, w2.alloc (.cells #[.int .i64 0] 3) = w3 := ⟨_, rfl⟩
  have s3 : w3.heap.size = w.heap.size + 1 + 1 + 1 := by rw [← e3, alloc_size, s2]
  have hX := hX.alloc (.cells #[.int .i64 0] 3)
  have ht := ht.alloc (.cells #[.int .i64 0] 3)
  rw [s2] at hl
  rw [e3] at ht hl hX ⊢
  have hC := own_lit1R w3 2 .i64 1
  obtain ⟨w4, e4⟩ : ∃ w4, w3.alloc (.cells #[.int .i64 1] 2) = w4 := ⟨_, rfl⟩
  have s4 : w4.heap.size = w.heap.size + 1 + 1 + 1 + 1 := by rw [← e4, alloc_size, s3]
  have hX := hX.alloc (.cells #[.int .i64 1] 2)
  have ht := ht.alloc (.cells #[.int .i64 1] 2)
  have hl := hl.alloc (.cells #[.int .i64 1] 2)
  rw [s3] at hC
  rw [e4] at ht hl hX hC ⊢
  have hc := BoxV.new w4 (.slice (some ⟨w.heap.size + 1 + 1 + 1, 0, none⟩) 1 1) 59
  obtain ⟨w5, e5⟩ : ∃ w5, w4.alloc (.cells #[.slice (some ⟨w.heap.size + 1 + 1 + 1, 0, none⟩) 1 1] 59) = w5 := ⟨_, rfl⟩
  have s5 : w5.heap.size = w.heap.size + 1 + 1 + 1 + 1 + 1 := by rw [← e5, alloc_size, s4]
  have hX := hX.alloc (.cells #[.slice (some ⟨w.heap.size + 1 + 1 + 1, 0, none⟩) 1 1] 59)
  have ht := ht.alloc (.cells #[.slice (some ⟨w.heap.size + 1 + 1 + 1, 0, none⟩) 1 1] 59)
  have hl := hl.alloc (.cells #[.slice (some ⟨w.heap.size + 1 + 1 + 1, 0, none⟩) 1 1] 59)
  have hC := hC.alloc (.cells #[.slice (some ⟨w.heap.size + 1 + 1 + 1, 0, none⟩) 1 1] 59)
  rw [s4] at hc
  rw [e5] at ht hl hX hC hc ⊢
  have hO := own_lit1R w5 2 .i64 1
  obtain ⟨w6, e6⟩ : ∃ w6, w5.alloc (.cells #[.int .i64 1] 2) = w6 := ⟨_, rfl⟩
  have s6 : w6.heap.size = w.heap.size + 1 + 1 + 1 + 1 + 1 + 1 := by rw [← e6, alloc_size, s5]
  have hX := hX.alloc (.cells #[.int .i64 1] 2)
  have ht := ht.alloc (.cells #[.int .i64 1] 2)
  have hl := hl.alloc (.cells #[.int .i64 1] 2)
  have hC := hC.alloc (.cells #[.int .i64 1] 2)
  have hc := hc.alloc (.cells #[.int .i64 1] 2)
  rw [s5] at hO
  rw [e6] at ht hl hX hC hc hO ⊢
  have ho := BoxV.new w6 (.slice (some ⟨w.heap.size + 1 + 1 + 1 + 1 + 1, 0, none⟩) 1 1) 59
  rw [s6] at ho
  exact ⟨hX.alloc _, ht.alloc _, hl.alloc _, hc.alloc _, ho, World.ownsRow_nil _ _ _ _, (hC.alloc _).low (by omega), (hO.alloc _).low (by omega), .inl rfl, .inl rfl, ⟨by omega, by omega, by omega, by omega⟩, ⟨by omega, by omega, by omega, by omega, by omega, by omega⟩⟩
set_option maxRecDepth 100000 in
set_option maxHeartbeats 8000000 in
theorem implRegister (R : Fld) (p k g : Int) (w : World) :
    Calls Try.prog 66 #[.agg #[.int .i64 p, .int .i64 k, .int .i64 g]] w
      (fun e w' => ∃ bt bl bc bo vt vC vO, e = .returned (.func (.func 95) #[] #[.pointer (some ⟨bt, 0, none⟩), .pointer (some ⟨bo, 0, none⟩), .pointer (some ⟨w.heap.size, 0, none⟩), .pointer (some ⟨bc, 0, none⟩), .pointer (some ⟨bl, 0, none⟩)]) ∧
        Reg w w' p k g bt bl bc bo [] ([1] : List (El R)) [1] 0 vt vC vO) := by
  have HX := hide (Box.start w 25 p k g)
  have hmf : ∀ (fn : Fn) (first cap : Array Value) (w : World), (Instr.makeFunc fn first cap).run Try.prog w = .ok (.func fn first cap) w := fun _ _ _ _ => rfl
  go_enter Try.func66, Try.ntmps66
  go_wp2_with fail
  go_ret
  exact ⟨_, _, _, _, _, _, _, rfl, reg_start R w p k g⟩

/-- The polynomial and the length that are left. -/
def ShRel (w0 w : World) (bt bl bc bo : Nat) (p k g : Int) (n : Nat) (s : List (El R)) (v m i : Value) (wr : World) : Prop :=
  ∃ (j : Nat) (vt vC vO : Value), j ≤ n ∧ i = .int .i64 j ∧ m = .int .i64 ((bm (cf s) j).L : Nat) ∧ Own wr (w.heap.size + 1) 2 .i64 v (iv (bm (cf s) j).C) ∧ Reg w0 wr p k g bt bl bc bo (iv (s.take j)) (bm (cf s) j).C (bm (cf s) j).O (bm (cf s) j).L vt vC vO
set_option maxRecDepth 100000 in
set_option maxHeartbeats 8000000 in
theorem implShortest (h : FldIs R p k g) (s : List (El R)) (A : Option Addr) (n c B : Nat) (w : World) (hI : Ints .i64 w B A n (iv s)) (hB : B ≤ w.heap.size) (hn : n ≤ 64) :
    Calls Try.prog 42 #[.agg #[.int .i64 p, .int .i64 k, .int .i64 g], .slice A n c] w
      (fun e w' => ∃ v, e = .returned (.tuple #[v, .int .i64 ((bm (cf s) n).L : Nat)]) ∧ Own w' w.heap.size 2 .i64 v (iv (bm (cf s) n).C) ∧ Below w.heap.size w w') := by
  have HX := hide (Box.start w 25 p k g)
  have hsn : s.length = n := by rw [← iv_len]; exact hI.len
  have HI := hide hI
  have HSN := hide hsn
  clear hI hsn
  have HXa := hide (HX.out.alloc (.cells #[.int .i64 1] 2))
  have HL1 := hide (own_lit1R (w.alloc (.cells #[.int .i64 p, .int .i64 k, .int .i64 g] 25)) 2 .i64 1)
  obtain ⟨c0, c1, c2⟩ := HXa.out.cells
  go_enter Try.func42, Try.ntmps42
  go_wp2_with fail
  obtain ⟨W0, hW0⟩ : ∃ W0, (w.alloc (.cells #[.int .i64 p, .int .i64 k, .int .i64 g] 25)).alloc (.cells #[.int .i64 1] 2) = W0 := ⟨_, rfl⟩
  rw [hW0] at HXa HL1 ⊢
  rw [alloc_size] at HL1
  clear c0 c1 c2 hW0 HX
  refine (implRegister R p k g _).mono ?_
  rintro e w1 ⟨bt, bl, bc, bo, vt, vC, vO, rfl, hR⟩
  have HR1 := hide hR
  have HX1 := hide (HXa.out.next hR.fx.2)
  have HL2 := hide (HL1.out.below hR.fx.2 (Nat.le_refl _))
  have hW0 : w.heap.size + 1 ≤ W0.heap.size := HXa.out.lt
  clear hR HL1
  go_wp2_with fail
  go_loopw [6, 7, 16] (fun v m i wr => ShRel W0 w bt bl bc bo p k g n s v m i wr) (fun _ _ i _ => n - (intOf i).toNat)
  case atStart => exact ⟨0, vt, vC, vO, Nat.zero_le _, rfl, rfl, HL2.out, HR1.out⟩
  case round =>
    clear HL2 HX1 HR1
    obtain ⟨vS, rfl⟩ : ∃ v : Value, v = u6 := ⟨_, rfl⟩
    obtain ⟨j, vt', vC', vO', hj, rfl, rfl, HO, HR⟩ := hrel
    have HO := hide HO
    have HX := hide (HXa.out.next HR.fx.2)
    have HR := hide HR
    by_cases hlt : j < n
    · obtain ⟨b, off, x', rfl, hb, hx, hc⟩ := (HI.out.below (HX.out.2.mono hB)).at_ hlt
      obtain ⟨x, hx', rfl⟩ : ∃ x : El R, s[j]? = some x ∧ x' = (x.val : Int) := by
        rw [iv, List.getElem?_map] at hx
        obtain ⟨x, h1, h2⟩ := Option.map_eq_some_iff.1 hx
        exact ⟨x, h1, h2.symm⟩
      clear hx
      go_wp2_with fail
      refine (implRegStep h W0 bt bl bc bo s j x hx' (by rw [HSN.out]; exact hn) vt' vC' vO' wr HR.out).mono ?_
      rintro e w2 ⟨vt2, vC2, vO2, rfl, hR2⟩
      have HR2 := hide hR2
      clear hR2
      go_wp2_with fail
      go_roundw
      case rel => exact ⟨j + 1, vt2, vC2, vO2, by omega, by go_num, rfl, HR2.out.oC.low (by omega), HR2.out⟩
      case measure => simp [intOf]; omega
    · obtain rfl : j = n := by omega
      go_wp2_with fail
      go_ret2
      exact ⟨_, rfl, HO.out.low (by omega), HX.out.2⟩

/-- The recurrence, if there is one. -/
def recL (n : Nat) (t : BmSt R) : List (El R) := if n < 2 * t.L then [] else t.C
def recB (n : Nat) (t : BmSt R) : Bool := decide (2 * t.L ≤ n)
theorem recL_no {n : Nat} {t : BmSt R} (h : n < 2 * t.L) : recL n t = [] ∧ recB n t = false := ⟨if_pos h, decide_eq_false (by omega)⟩
theorem recL_yes {n : Nat} {t : BmSt R} (h : ¬ n < 2 * t.L) : recL n t = t.C ∧ recB n t = true := ⟨if_neg h, decide_eq_true (by omega)⟩
theorem implRecurrence (h : FldIs R p k g) (s : List (El R)) (A : Option Addr) (n c B : Nat) (w : World) (hI : Ints .i64 w B A n (iv s)) (hB : B ≤ w.heap.size) (hn : n ≤ 64) :
    Calls Try.prog 35 #[.agg #[.int .i64 p, .int .i64 k, .int .i64 g], .slice A n c] w
      (NewIB (iv (recL n (bm (cf s) n))) (recB n (bm (cf s) n)) w) := by
  have HX := hide (Box.start w 25 p k g)
  have hLn := bm_le (cf s) n
  have HI := hide hI
  clear hI
  obtain ⟨c0, c1, c2⟩ := HX.out.cells
  go_enter Try.func35, Try.ntmps35
  go_wp2_with fail
  refine (implShortest h s A n c B _ (HI.out.below (HX.out.2.mono hB)) (Nat.le_trans hB (Nat.le_of_lt HX.out.lt)) hn).mono ?_
  rintro e w1 ⟨v, rfl, ho, hb⟩
  have HX1 := hide (HX.out.next hb)
  have HO1 := hide (ho.low (base' := w.heap.size) (Nat.le_of_lt HX.out.lt))
  clear ho hb c0 c1 c2
  by_cases hlt0 : n < 2 * (bm (cf s) n).L
  · have HZ := hide (recL_no hlt0)
    obtain ⟨L, hL⟩ : ∃ L, (bm (cf s) n).L = L := ⟨_, rfl⟩
    rw [hL] at hLn hlt0 ⊢
    have z1 : decide ((n : Int) < 2 * (L : Int)) = true := by rw [decide_eq_true_eq]; omega
    clear hL
    go_wp2_with fail
    go_ret2
    rw [HZ.out.1, HZ.out.2]
    exact newIB_nil HX1.out.2
  · have HZ := hide (recL_yes hlt0)
    obtain ⟨L, hL⟩ : ∃ L, (bm (cf s) n).L = L := ⟨_, rfl⟩
    rw [hL] at hLn hlt0 ⊢
    have z1 : decide ((n : Int) < 2 * (L : Int)) = false := by rw [decide_eq_false_iff_not]; omega
    clear hL
    go_wp2_with fail
    go_ret2
    rw [HZ.out.1, HZ.out.2]
    exact newIB_of HO1.out HX1.out.2 (Nat.le_refl _)
end
end Go.Proofs.Ytdniocdmncldjaa
