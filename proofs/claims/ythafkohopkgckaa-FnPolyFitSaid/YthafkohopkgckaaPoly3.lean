/-
  The contracts of the program's values, shortened lists, multiples, products and sums of polynomials.
  Condition: the field is valid, and lists are shorter than 2^40.
-/
import Derived.Test.YthafkohopkgckaaPoly2
import Derived.Test.YthafkohopkgckaaPolyMath2
import Derived.Laws.CopyOwn
namespace Go.Proofs.Ythafkohopkgckaa
open Go.RowKit
set_option linter.unusedSimpArgs false

theorem Box.grown {w wr wr' : World} {t : TypeId} {p k g : Int} {b : Nat} (h : Box w wr t p k g) (hg : wr.grownBy wr' (some b)) (hb : w.heap.size < b) : Box w wr' t p k g :=
  ⟨by rw [hg.block _ h.lt (by simp; omega)]; exact h.1, h.2.grown hg (Nat.le_of_lt h.lt) (fun r hr => by simp only [Option.some.injEq] at hr; omega)⟩
theorem Own.low {w : World} {base base' : Nat} {e : TypeId} {k : IntKind} {v : Value} {zs : List Int} (h : Own w base e k v zs) (hb : base' ≤ base) : Own w base' e k v zs := by
  refine ⟨h.1, ?_⟩
  rcases h.2 with h0 | ⟨g, cap, cur, h1, h2, h3⟩
  · exact .inl h0
  · exact .inr ⟨g, cap, cur, h1, by omega, h3⟩
theorem Own.take {w : World} {base g n c m : Nat} {e : TypeId} {k : IntKind} {zs : List Int} (h : Own w base e k (.slice (some ⟨g, 0, none⟩) n c) zs) (hm : m ≤ n) : Own w base e k (.slice (some ⟨g, 0, none⟩) m c) (zs.take m) := by
  have hl := h.len
  rcases h.2 with ⟨h0, _⟩ | ⟨g', cap, cur, hv, hb, hg, hnc, hmx, hs, ht⟩
  · cases h0
  · simp only [Value.slice.injEq, Option.some.injEq, Addr.mk.injEq, and_true] at hv
    obtain ⟨⟨rfl, _⟩, _, rfl⟩ := hv
    refine Own.intro (n := m) ⟨?_, .inr ⟨g, c, cur, rfl, hb, hg, by omega, hmx, hs, ?_⟩⟩ (by rw [List.length_take]; omega) rfl
    · simp; omega
    · rw [Nat.mul_one] at ht ⊢
      rw [List.map_take, ← ht, List.take_take, Nat.min_eq_left (by omega)]

section
variable {R : Fld} {p k g : Int}
def EvRel (w : World) (p k g : Int) (n : Nat) (x : El R) (ps : List (El R)) (v i : Value) (wr : World) : Prop :=
  ∃ (j : Nat) (kk : Int) (y : El R), j ≤ n ∧ kk = (j : Int) - 1 ∧ i = .int .i64 kk ∧ v = .int .i64 (y.val : Nat) ∧ Hid (y = ev x (ps.drop j)) ∧ Box w wr 25 p k g

set_option maxHeartbeats 1000000 in
theorem implValueAt (h : FldIs R p k g) (x : El R) (ps : List (El R)) (A : Option Addr) (n c B : Nat) (w : World) (hI : Ints .i64 w B A n (iv ps)) (hB : B ≤ w.heap.size) (hn : n ≤ 1099511627776) :
    Calls Try.prog 73 #[.slice A n c, .agg #[.int .i64 p, .int .i64 k, .int .i64 g], .int .i64 x.val] w (Gives (.int .i64 ((ev x ps).val : Nat)) w) := by
  have HX := hide (Box.start w 25 p k g)
  have HI := hide hI
  have hl : ps.length = n := by rw [← iv_len]; exact hI.len
  clear hI
  go_enter Try.func73, Try.ntmps73
  go_wp2_with fail
  go_loopw [7, 8] (fun v i wr => EvRel w p k g n x ps v i wr) (fun _ i _ => (intOf i + 1).toNat)
  case atStart => exact ⟨n, _, 0, Nat.le_refl _, rfl, rfl, rfl, by rw [List.drop_of_length_le (by omega)]; rfl, HX⟩
  case round =>
    clear HX
    obtain ⟨j, kk, y, hj, hkk, rfl, rfl, HY, HX⟩ := hrel
    have HX := hide HX
    by_cases hj0 : j = 0
    · subst hj0
      obtain rfl : kk = -1 := by omega
      have HF := hide (show (((ev x ps).val : Nat) : Int) = (y.val : Int) by rw [HY.out]; rfl)
      clear hkk
      go_wp2_with fail
      go_ret
      exact ⟨ret_int HF, HX.out.2⟩
    · obtain ⟨i, rfl⟩ : ∃ i, j = i + 1 := ⟨j - 1, by omega⟩
      obtain rfl : kk = (i : Int) := by omega
      clear hkk
      have hin : i < n := by omega
      obtain ⟨b, off, z, rfl, hb, hz, hc⟩ := (HI.out.below (HX.out.2.mono hB)).at_ hin
      rw [iv_at (by omega)] at hz
      simp only [Option.some.injEq] at hz
      subst hz
      obtain ⟨u, hu⟩ : ∃ u, u = cf ps i := ⟨_, rfl⟩
      rw [← hu] at hc
      have HN := hide (show y * x + u = ev x (ps.drop i) by rw [ev_drop (by omega), ← HY.out, hu])
      have hbl : b < wr.heap.size := Nat.lt_of_lt_of_le hb (Nat.le_trans hB (Nat.le_of_lt HX.out.lt))
      have HC := hide hc
      clear hu hc
      go_wp2_with fail
      go_region_held3 (fun w' => w'.cell? ⟨w.heap.size, 0, none⟩ = some (.int .i64 p) ∧ w'.cell? ⟨w.heap.size, 1, none⟩ = some (.int .i64 k) ∧ w'.cell? ⟨w.heap.size, 2, none⟩ = some (.int .i64 g) ∧ w'.cell? ⟨b, off + i, none⟩ = some (.int .i64 (u.val : Int)))
        (first
          | exact ⟨HX.out.drew.cells.1, HX.out.drew.cells.2.1, HX.out.drew.cells.2.2, HC.out⟩
          | exact ⟨HX2.out.cells.1, HX2.out.cells.2.1, HX2.out.cells.2.2, HC2.out⟩
          | exact ⟨HX3.out.cells.1, HX3.out.cells.2.1, HX3.out.cells.2.2, HC3.out⟩)
        (first
          | (go_at_call 64; refine (implProdE h y x _).mono ?_; rintro e w2 ⟨rfl, hb2⟩; have HX2 := hide (HX.out.drew.next hb2); have HC2 := hide ((hb2.cell (p := ⟨b, off + i, none⟩) hbl).trans HC.out); have hbl2 : b < w2.heap.size := Nat.lt_of_lt_of_le hbl hb2.size; clear hb2)
          | (go_at_call 59; refine (implSumE h (y * x) u _).mono ?_; rintro e w3 ⟨rfl, hb3⟩; have HX3 := hide (HX2.out.next hb3); have HC3 := hide ((hb3.cell (p := ⟨b, off + i, none⟩) hbl2).trans HC2.out); clear hb3))
      go_wp2_with fail
      go_roundw
      case rel => exact ⟨i, _, y * x + u, by omega, rfl, rfl, rfl, HN, HX3⟩
      case measure => simp [intOf]

def TrRel (n c gB : Nat) (ps : List (El R)) (v : Value) : Prop :=
  ∃ m : Nat, m ≤ n ∧ v = .slice (some ⟨gB, 0, none⟩) m c ∧ Hid (trim (ps.take m) = trim ps)
/-- What a shortened list leaves. -/
def Trimmed (base gB c : Nat) (ps : List (El R)) (w : World) (x : Ending) (w' : World) : Prop :=
  x = .returned (.slice (some ⟨gB, 0, none⟩) (trim ps).length c) ∧ Own w base 2 .i64 (.slice (some ⟨gB, 0, none⟩) (trim ps).length c) (iv (trim ps)) ∧ w = w'
theorem Own.trim_ {w : World} {base gB n c m : Nat} {ps : List (El R)} (hO : Own w base 2 .i64 (.slice (some ⟨gB, 0, none⟩) n c) (iv ps)) (hm : m ≤ n) (h : ps.take m = trim ps) :
    Own w base 2 .i64 (.slice (some ⟨gB, 0, none⟩) m c) (iv (trim ps)) := by
  have := hO.take hm
  rw [iv_take, h] at this
  exact this

set_option maxHeartbeats 1000000 in
theorem implTrimmed (ps : List (El R)) (gB n c base : Nat) (w : World) (hO : Own w base 2 .i64 (.slice (some ⟨gB, 0, none⟩) n c) (iv ps)) (hn : n ≤ 1099511627776) :
    Calls Try.prog 104 #[.slice (some ⟨gB, 0, none⟩) n c] w (Trimmed base gB c ps w) := by
  have hl : ps.length = n := by have := hO.len; rw [iv_len] at this; omega
  have hcap : n ≤ c := by
    obtain ⟨A, c', h1, h2⟩ := hO.form
    simp only [Value.slice.injEq] at h1
    rw [iv_len] at h2
    omega
  have HO := hide hO
  clear hO
  go_enter Try.func104, Try.ntmps104
  go_wp2_with fail
  go_loop [0] (fun v => TrRel n c gB ps v) (fun v => match v with | .slice _ m _ => m | _ => 0)
  case atStart => exact ⟨n, Nat.le_refl _, rfl, by rw [List.take_of_length_le (by omega)]; rfl⟩
  case round =>
    obtain ⟨m, hm, rfl, HT⟩ := hrel
    rcases Nat.eq_zero_or_pos m with rfl | hp
    · have HF := hide (show ps.take 0 = trim ps by rw [← HT.out]; rfl)
      have HW := hide (HO.out.trim_ (Nat.zero_le _) HF.out)
      have HZ := hide (show (trim ps).length = 0 by rw [← HF.out]; rfl)
      go_wp2_with fail
      go_ret
      exact ⟨by rw [HZ.out]; rfl, by rw [HZ.out]; exact HW, rfl⟩
    · obtain ⟨i, rfl⟩ : ∃ i, m = i + 1 := ⟨m - 1, by omega⟩
      have hw1 : ((i + 1 : Nat) : Int) - 1 = (i : Int) := by omega
      have hsn : ps.take (i + 1) = ps.take i ++ [cf ps i] := by rw [List.take_add_one, at_cf (by omega)]; rfl
      have HL := hide (show (iv (ps.take (i + 1))).getLast? = some ((cf ps i).val : Int) by rw [hsn, iv_app, iv_one]; simp)
      have HI := hide (show Ints .i64 w w.heap.size (some ⟨gB, 0, none⟩) (i + 1) (iv (ps.take (i + 1))) by
        have h1 := HO.out.take hm
        rw [iv_take] at h1
        have h2 := h1.ints
        rwa [iv_len, List.length_take, Nat.min_eq_left (by omega)] at h2)
      by_cases hz : cf ps i = 0
      · have HN := hide (show trim (ps.take i) = trim ps by rw [← HT.out, hsn, hz, trim_zero])
        rw [hz] at HL
        clear hsn hz
        go_wp2_with fail
        refine (implLast (some ⟨gB, 0, none⟩) (i + 1) c w.heap.size _ _ _ HI.out HL.out (by omega)).mono ?_
        rintro e w1 ⟨rfl, rfl⟩
        go_wp2_with fail
        go_round
        case rel => exact ⟨i, by omega, rfl, HN⟩
        case measure => simp
      · have HF := hide (show ps.take (i + 1) = trim ps by rw [← HT.out, hsn, trim_more _ hz])
        have HW := hide (HO.out.trim_ hm HF.out)
        have HZ := hide (show (trim ps).length = i + 1 by rw [← HF.out, List.length_take]; omega)
        have hv : ((((cf ps i).val : Nat) : Int) == 0) = false := by have := val_ne hz; simp; omega
        clear hsn hz
        go_wp2_with fail
        refine (implLast (some ⟨gB, 0, none⟩) (i + 1) c w.heap.size _ _ _ HI.out HL.out (by omega)).mono ?_
        rintro e w1 ⟨rfl, rfl⟩
        go_wp2_with fail
        go_ret
        exact ⟨by rw [HZ.out]; rfl, by rw [HZ.out]; exact HW, rfl⟩
end

theorem implPlen {R : Fld} (ps qs : List (El R)) (A A' : Option Addr) (n m c c' : Nat) (w : World) (hp : ps.length = n) (hq : qs.length = m) (hn : n ≤ 1099511627776) (hm : m ≤ 1099511627776) :
    Calls Try.prog 68 #[.slice A n c, .slice A' m c'] w fun e w' => e = .returned (.int .i64 (plen ps qs : Nat)) ∧ w = w' := by
  rcases Nat.eq_zero_or_pos n with h0 | h0
  · rw [plen_0 (by omega)]
    subst h0
    go_enter Try.func68, Try.ntmps68
    go_wp2
    go_ret
    exact ⟨rfl, rfl⟩
  · have e0 : ((n : Int) == 0) = false := by simp; omega
    rcases Nat.eq_zero_or_pos m with h1 | h1
    · rw [plen_0 (by omega)]
      subst h1
      go_enter Try.func68, Try.ntmps68
      go_wp2
      go_ret
      exact ⟨rfl, rfl⟩
    · have e1 : ((m : Int) == 0) = false := by simp; omega
      have HF := hide (show ((plen ps qs : Nat) : Int) = (n : Int) + (m : Int) - 1 by rw [plen_1 (by omega) (by omega)]; omega)
      go_enter Try.func68, Try.ntmps68
      go_wp2
      go_ret
      exact ⟨ret_int HF, rfl⟩
end Go.Proofs.Ythafkohopkgckaa
